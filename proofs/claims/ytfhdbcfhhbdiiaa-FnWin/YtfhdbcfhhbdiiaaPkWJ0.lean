import Derived.Maps.OwnSet
import Derived.Maps.Views
import Derived.DeepKeys4
import Derived.MapViews
import Derived.Lib.QuietBelow
import Derived.Test.YtfhdbcfhhbdiiaaWr3
namespace Go.Proofs.Ytfhdbcfhhbdiiaa
set_option maxRecDepth 100000
set_option maxHeartbeats 8000000
set_option linter.unusedVariables false
namespace Mv0
open Go.RowKit
open Nd0 (Kept)
open Go.Maps Go.WideMaps
theorem laidOut:laidOutB Try.prog=true:=by kernel_rfl
theorem rowSpot:(68:TypeId) < Try.prog.types.size:=of_decide_eq_true (by kernel_rfl)
theorem wideSpot:(match Try.prog.underlying 68 with|some (.array _ _)|some (.struct _)=>true|_=>false)=true:=by kernel_rfl
theorem law:Keyed Try.prog 68:=Keyed.of_law (deep_law_laid laidOut (m:=2) (by omega) rowSpot (by kernel_rfl) wideSpot)
theorem zeroInt (w:World):(zeroValue 3).run Try.prog w=.ok (.int .i64 0) w:=by kernel_rfl
theorem wf_small {x:Nat} (h:x<=1000000):(Lit.int .i64 (x:Int)).wf=true:=by
 have e1:IntKind.i64.min = -9223372036854775808:=by decide
 have e2:IntKind.i64.max=9223372036854775807:=by decide
 simp [Lit.wf,e1,e2];omega
/-- A spot: so many bits, told as a number. -/
abbrev Sp:=Nat × Nat
def Sm (x:Sp):Prop:=x.1<=1000000/\x.2<=1000000
def cl (x:Sp):List Value:=[.int .i64 (x.1:Int),.int .i64 (x.2:Int)]
abbrev agg (x:Sp):Value:=.agg #[.int .i64 (x.1:Int),.int .i64 (x.2:Int)]
theorem agg_inj {m n:Sp} (h:agg m=agg n):m=n:=by
 unfold agg at h
 injection h with h
 have h1:=congrArg (fun z=>z.toList) h
 simp at h1
 exact Prod.ext (by omega) (by omega)
theorem lits_int (d:Nat) {x:Int} (h:(Lit.int .i64 x).wf=true):Try.prog.keyLits (d+1) 3 [.int .i64 x]=some [.int .i64 x]:=by
 simp only [Program.keyLits,Try.underlying3]
 rw [if_pos ⟨trivial,h⟩]
theorem cellsInt:Try.prog.cellsOf 3=1:=by kernel_rfl
theorem cellsSpot:Try.prog.cellsOf 68=2:=by kernel_rfl
theorem underSpot:∃ fs,Try.prog.underlying 68=some (.struct fs)/\fs.all (·.name != "_")=true/\fs.toList.map (fun f=>(f.type,f.offset))=[(3,0),(3,1)]:=⟨_,Try.underlying68,by decide +kernel,by decide +kernel⟩
theorem lits_spot (d:Nat) {x:Sp} (h:Sm x):∃ l,Try.prog.keyLits (d+1+1) 68 (cl x)=some l:=by
 obtain ⟨h0,h1⟩:=h
 obtain ⟨fs,hu,hall,hts⟩:=underSpot
 have hlen:(cl x).length=Try.prog.cellsOf 68:=by rw [cellsSpot];rfl
 unfold Program.keyLits
 simp only [hu]
 rw [if_pos ⟨hlen,hall⟩]
 have hm:(fs.toList.mapM fun f=>Try.prog.keyLits (d+1) f.type (((cl x).drop f.offset).take (Try.prog.cellsOf f.type)))=((fs.toList.map (fun f=>(f.type,f.offset))).mapM fun y=>Try.prog.keyLits (d+1) y.1 (((cl x).drop y.2).take (Try.prog.cellsOf y.1))):=by
  rw [List.mapM_map]
  simp only [Function.comp_def]
 rw [hm,hts]
 simp [cellsInt,cl,lits_int d (wf_small h0),lits_int d (wf_small h1)]
theorem formedSpot (x:Sp):(agg x).formed Try.prog 68=true:=by
 obtain ⟨fs,hu,_,_⟩:=underSpot
 simp [Value.formed,hu,cellsSpot]
theorem key_some {x:Sp} (h:Sm x):∃ l,keyOf Try.prog 68 (agg x)=some l:=by
 obtain ⟨d,hd⟩:∃ d,Try.prog.types.size+1=d+1+1:=⟨Try.prog.types.size - 1,by
  have h9:1<=Try.prog.types.size:=Nat.le_trans (by decide) (Nat.le_of_lt rowSpot)
  omega⟩
 obtain ⟨l,hl⟩:=lits_spot d h
 have hkt:Try.prog.keyType 68=true:=by kernel_rfl
 obtain ⟨fs,hu,_,_⟩:=underSpot
 unfold keyOf
 simp only [hu]
 rw [hkt,formedSpot,hd]
 refine ⟨.string (keyBytes l),?_⟩
 have hc:(agg x).cells.toList=cl x:=rfl
 rw [hc,hl];rfl
noncomputable def keyA (x:Sp):Lit:=(keyOf Try.prog 68 (agg x)).getD .nil
theorem key_eq {x:Sp} (h:Sm x):keyOf Try.prog 68 (agg x)=some (keyA x):=by
 obtain ⟨l,hl⟩:=key_some h
 unfold keyA;rw [hl];rfl
theorem key_ne {m n:Sp} (hm:Sm m) (hn:Sm n) (h:m≠n):keyA m≠keyA n:=fun e=>h (agg_inj (law.inj (key_eq hm) (by rw [key_eq hn,e])))
/-- The map in block bm has c keys and says f. -/
def Mv (w:World) (bm c:Nat) (f:Sp->Option Int):Prop :=
 ∃ D:DataW Unit,w.ownsMap Try.prog 68 (plainElem Try.prog 3) bm c D/\∀ x,Sm x->Maps.has D (keyA x)=(f x).isSome/\∀ v z,f x=some v->D.atKey (keyA x) z=.lit (.int .i64 v)
theorem Mv.new (w:World):Mv (w.alloc (.map #[] 0)) w.heap.size 0 (fun _=>none) :=
 ⟨.map [],World.ownsMap_made w _ _ _,fun x _=>⟨rfl,fun v z h=>by cases h⟩⟩
theorem Mv.lt {w:World} {bm c:Nat} {f:Sp->Option Int} (h:Mv w bm c f):bm < w.heap.size:=by obtain ⟨D,h,_⟩:=h;exact h.lt
theorem Mv.kept {w w':World} {bm c:Nat} {f:Sp->Option Int} (h:Mv w bm c f) {S:Nat->Prop} (k:Kept S w w') (hs:¬ S bm):Mv w' bm c f:=by
 obtain ⟨D,ho,hp⟩:=h
 refine ⟨D,?_,hp⟩
 obtain ⟨es,clock,hb,F⟩:=ho
 exact ⟨es,clock,by rw [k.block bm (Array.getElem?_eq_some_iff.1 hb).1 hs];exact hb,F⟩
theorem Mv.below {w w':World} {bm c:Nat} {f:Sp->Option Int} (h:Mv w bm c f) (k:Below w.heap.size w w'):Mv w' bm c f:=h.kept (S:=fun _=>False) (Kept.ofBelow k) (fun h=>h)
theorem Mv.look {w:World} {bm c:Nat} {f:Sp->Option Int} (h:Mv w bm c f) {x:Sp} (hx:Sm x) :
 (Instr.lookup 65 (.map (some bm)) (agg x) true).run Try.prog w=.ok (.tuple #[.int .i64 ((f x).getD 0),.bool (f x).isSome]) w:=by
 obtain ⟨D,ho,hp⟩:=h
 obtain ⟨v,ps,hrun,hv⟩:=ho.look_ok law Try.underlying65 (zeroInt w) (plainElem_int Try.underlying3 (a:=0) rfl) (key_eq hx)
 rw [hrun]
 obtain ⟨h1,h2⟩:=hp x hx
 obtain ⟨a,rfl,hz,_⟩:=plainElem_int_inv Try.underlying3 hv
 cases hf:f x with
 | none =>
   rw [hf] at h1
   rw [Maps.atKey_of_not_has h1] at hz
   rw [h1]
   cases hz;rfl
 | some u =>
   rw [hf] at h1
   rw [h1]
   rw [h2 u _ hf] at hz
   cases hz;rfl
def putF (f:Sp->Option Int) (x:Sp) (v:Int):Sp->Option Int:=fun y=>if y=x then some v else f y
theorem Mv.store {w:World} {bm c:Nat} {f:Sp->Option Int} (h:Mv w bm c f) {x:Sp} (hx:Sm x) {v:Int} (hv:(Lit.int .i64 v).wf=true) (hn:f x=none) (hl:c<=1048576) :
 ∃ w' c',(Instr.mapUpdate 65 (.map (some bm)) (agg x) (.int .i64 v)).run Try.prog w=.ok () w'/\c'<=c+1/\Mv w' bm c' (putF f x v)/\Kept (fun k=>k=bm) w w':=by
 obtain ⟨D,ho,hpp⟩:=h
 obtain ⟨w',hrun,ho',hg⟩:=ho.update law Try.underlying65 (by unfold maxLen;omega) (key_eq hx) (plainElem_int Try.underlying3 (a:=v) hv)
 refine ⟨w',_,hrun,?_,⟨_,ho',fun m hm=>?_⟩,⟨hg.os,hg.tape,hg.output,hg.size,fun i hi hne=>hg.block i hi (fun e=>hne (by cases e;rfl))⟩⟩
 ·omega
 ·unfold putF
  by_cases e:m=x
  ·subst e
   rw [if_pos rfl]
   refine ⟨Maps.has_put_same ho.isMap (law.key (key_eq hx)) _,fun u z hu=>?_⟩
   cases hu
   exact Maps.atKey_put_same ho.isMap (law.key (key_eq hx)) _ z
  ·rw [if_neg e]
   have hk:=key_ne hm hx e
   obtain ⟨h1,h2⟩:=hpp m hm
   exact ⟨by rw [Maps.has_put_other hk];exact h1,fun u z hu=>by rw [Maps.atKey_put_other hk];exact h2 u z hu⟩
end Mv0
namespace Wp13
open Go.RowKit
open Nd0 (Kept Ints WInts IntsIn lt_of_cell)
open Op6 (Pk PkAt Pks)
open Ta2 (bitB plc)
open Vo0 (allB valB iVals)
open Tc5 (Lay)
open Mv0 (Mv Sp Sm putF)
open Wp0 Wp7 Wp12
def sp (l:List Int):Sp:=(l.length,plc l l.length)
/-- The Val of the first pick at a spot. -/
def fp:List Pk->Sp->Option Int
 | [],_=>none
 | p :: r,x=>if valB p.l 12=true/\sp p.l=x then some p.v else fp r x
theorem fp_snoc (l:List Pk) (p:Pk) (x:Sp):fp (l++[p]) x=if (fp l x).isSome=true then fp l x else if valB p.l 12=true/\sp p.l=x then some p.v else none:=by
 induction l with
 | nil=>rfl
 | cons q r ih =>
   show fp (q :: (r++[p])) x=_
   unfold fp
   by_cases h:valB q.l 12=true/\sp q.l=x
   ·rw [if_pos h,if_pos h];rfl
   ·rw [if_neg h,if_neg h]
    exact ih
theorem val_bits {l:List Int} (h:valB l 12=true):(∀ i,i < l.length->bitB (l.getD i 0)=true)/\l.length<=12:=by
 unfold valB allB at h
 simp at h
 refine ⟨fun i hi=>?_,by omega⟩
 have:l.getD i 0=l[i]:=by simp [List.getD,hi]
 rw [this]
 exact h.1 _ (List.getElem_mem hi)
theorem sp_small {l:List Int} (h:valB l 12=true):Sm (sp l):=by
 obtain ⟨h1,h2⟩:=val_bits h
 have h3:=Ta2.plc_lt h1
 have h4:2 ^ l.length<=2 ^ 12:=Nat.pow_le_pow_right (by decide) h2
 exact ⟨by show l.length<=_;omega,by show plc l l.length<=_;omega⟩
theorem iFirst (w:World) (a:Option Addr) (ps:List Pk) (c:Nat) (h:Pks w a ps) (hl:ps.length<=1048576) (hw:∀ p∈ps,(Lit.int .i64 p.v).wf=true) :
 Calls Try.prog 35 #[.slice a ps.length c] w fun e w'=>(∃ bm,e=.returned (.map (some bm))/\w.heap.size<=bm/\∃ k,Mv w' bm k (fp ps))/\Below w.heap.size w w':=by
 have H:Hid (Pks w a ps):=h
 have HWF:Hid (∀ p∈ps,(Lit.int .i64 p.v).wf=true):=hw
 clear h hw
 have hmm:=@run_makeMap Try.prog
 go_enter Try.func35,Try.ntmps35
 go_wp2
 clear hmm
 go_loopw [12] (fun i wr=>∃ k c':Nat,k<=ps.length/\i=.int .i64 k/\c'<=k/\Mv wr w.heap.size c' (fp (ps.take k))/\Below w.heap.size w wr) (fun i _=>ps.length - (intOf i).toNat)
 case atStart=>exact ⟨0,0,Nat.zero_le _,rfl,Nat.le_refl _,Mv.new w,(Below.refl _ _).alloc (Nat.le_refl _) _⟩
 case round =>
  obtain ⟨k,c',hk,rfl,hck,hmv,hbr⟩:=hrel
  have HM:Hid (Mv wr w.heap.size c' (fp (ps.take k))):=hmv
  have HB:Hid (Below w.heap.size w wr):=hbr
  clear hmv hbr
  by_cases hlt:k < ps.length
  ·have hlz:(k:Int) < (ps.length:Int):=by omega
   obtain ⟨b,o,ha,hc⟩:∃ b o,a=some ⟨b,o,none⟩/\PkAt wr b (o+k*2) ps[k]:=by
    rcases (pks_below H.out HB.out).2 with e|⟨b,o,e,hc⟩
    ·omega
    ·exact ⟨b,o,e,hc k hlt⟩
   subst ha
   obtain ⟨a5,c5,p0,p1,p2⟩:=hc
   have hbl:=lt_of_cell p0
   have P2:Hid (Ints wr a5 ps[k].l):=p2
   have HW5:Hid ((Lit.int .i64 ps[k].v).wf=true):=HWF.out _ (List.getElem_mem hlt)
   have HNX:Hid (∀ x,fp (ps.take (k+1)) x=if (fp (ps.take k) x).isSome=true then fp (ps.take k) x else if valB ps[k].l 12=true/\sp ps[k].l=x then some ps[k].v else none):=fun x=>by
    rw [List.take_succ_eq_append_getElem hlt]
    exact fp_snoc _ _ _
   clear p2
   generalize ps[k].l=l5 at *
   generalize ps[k].v=v5 at *
   go_upto_region 5 with fail
   clear p0 p1 hbl
   obtain ⟨W1,hW1⟩:∃ X,X=wr.alloc (.cells #[.slice a5 l5.length c5,.int .i64 v5] 61):=⟨_,rfl⟩
   obtain ⟨qp,hqp⟩:∃ q,q=wr.heap.size:=⟨_,rfl⟩
   have hb1:Below wr.heap.size wr W1:=by rw [hW1];exact (Below.refl _ _).alloc (Nat.le_refl _) _
   have HP1:Hid (Pb W1 qp a5 l5.length c5 v5):=by rw [hW1,hqp];exact Pb.made _ _ _ _ _ _
   have HI1:Hid (Ints W1 a5 l5):=P2.out.below hb1
   have HB1:Hid (Below w.heap.size w W1):=HB.out.trans (hb1.mono HB.out.size)
   have HM1:Hid (Mv W1 w.heap.size c' (fp (ps.take k))):=HM.out.below hb1
   rw [<- hW1,<- hqp]
   clear hW1 hqp hb1 P2 HB HM
   have HVO:Hid (Calls Try.prog 64 #[.slice a5 l5.length c5,.int .i64 12] W1 fun e w'=>e=.returned (.bool (valB l5 12))/\w'=W1):=iVals a5 l5 c5 12 W1 HI1.out
   obtain ⟨p0,p1⟩:=HP1.out
   have hp:=HP1.out.lt
   cases hval:valB l5 12
   ·rw [hval] at HVO
    have HE:Hid (fp (ps.take (k+1))=fp (ps.take k)):=by
     show _=_
     funext x
     rw [HNX.out,hval]
     split
     ·rfl
     ·rename_i hs
      rw [if_neg (by simp)]
      cases hh:fp (ps.take k) x
      ·rfl
      ·rw [hh] at hs;exact absurd rfl hs
    clear hval
    go_wp2_with (go_at_call 64;refine Calls.mono HVO.out ?_;rintro e w2 ⟨rfl,hw2⟩;have hw2':=hw2.symm;clear hw2;subst hw2')
    go_roundw
    case rel=>exact ⟨k+1,c',by omega,by go_num,by omega,by rw [HE.out];exact HM1.out,HB1.out⟩
    case measure=>simp [intOf];omega
   ·rw [hval] at HVO
    obtain ⟨v1,v2⟩:=val_bits hval
    have HSM:Hid (Sm (sp l5)):=sp_small hval
    have HSP:Hid _:=iSpot a5 l5 c5 W1 v2 v1 HI1.out
    go_upto_region 6 with (go_at_call 64;refine Calls.mono HVO.out ?_;rintro e w2 ⟨rfl,hw2⟩;have hw2':=hw2.symm;clear hw2;subst hw2')
    clear p0 p1 hp
    obtain ⟨p0,p1⟩:=HP1.out
    have hp:=HP1.out.lt
    go_wp2_with fail
    clear p0 p1 hp
    refine Calls.mono HSP.out ?_
    rintro e w2 ⟨rfl,hb2⟩
    go_upto_region 7 with fail
    obtain ⟨X,hX⟩:∃ X:Sp,X=sp l5:=⟨_,rfl⟩
    have hX1:(l5.length:Int)=(X.1:Int):=by rw [hX];rfl
    have hX2:((plc l5 l5.length:Nat):Int)=(X.2:Int):=by rw [hX];rfl
    rw [hX1,hX2]
    obtain ⟨W2,hW2⟩:∃ Z,Z=w2.alloc (.cells #[.int .i64 (X.1:Int),.int .i64 (X.2:Int)] 68):=⟨_,rfl⟩
    obtain ⟨qs,hqs⟩:∃ q,q=w2.heap.size:=⟨_,rfl⟩
    have hb3:Below W1.heap.size W1 W2:=by rw [hW2];exact hb2.alloc hb2.size _
    have HP2:Hid (Pb W2 qp a5 l5.length c5 v5):=HP1.out.below hb3
    have HS2:Hid (Lay W2 qs (.int .i64 (X.1:Int)) (.int .i64 (X.2:Int))):=by rw [hW2,hqs];exact Lay.made _ _ _ _
    have HB2:Hid (Below w.heap.size w W2):=HB1.out.trans (hb3.mono HB1.out.size)
    have HM2:Hid (Mv W2 w.heap.size c' (fp (ps.take k))):=HM1.out.below hb3
    have HSMX:Hid (Sm X):=by rw [hX];exact HSM.out
    have HVX:Hid (∀ x,(valB l5 12=true/\sp l5=x)↔x=X):=fun x=>by rw [hX];exact ⟨fun h=>h.2.symm,fun h=>⟨hval,h.symm⟩⟩
    rw [<- hW2,<- hqs]
    clear hW2 hqs hb2 hb3 hX hX1 hX2 hval v1 v2 HP1 HB1 HM1 HI1 HVO HSP HSM
    have hlk:=HM2.out.look HSMX.out
    obtain ⟨s0,s1,_,_⟩:=HS2.out
    have hs:=HS2.out.lt
    obtain ⟨p0,p1⟩:=HP2.out
    have hp:=HP2.out.lt
    cases hf:fp (ps.take k) X with
    | some u =>
      rw [hf] at hlk
      have HE:Hid (fp (ps.take (k+1))=fp (ps.take k)):=by
       show _=_
       funext x
       rw [HNX.out]
       by_cases e:x=X
       ·subst e;rw [hf];rfl
       ·rw [if_neg (c:=valB l5 12=true/\sp l5=x) (fun h=>e ((HVX.out x).1 h))]
        cases hh:fp (ps.take k) x<;>rfl
      clear hf
      go_wp2
      go_roundw
      case rel=>exact ⟨k+1,c',by omega,by go_num,by omega,by rw [HE.out];exact HM2.out,HB2.out⟩
      case measure=>simp [intOf];omega
    | none =>
      rw [hf] at hlk
      obtain ⟨w3,c3,hst,hc3,hm3,hk3⟩:=HM2.out.store HSMX.out HW5.out hf (by omega)
      have HE:Hid (fp (ps.take (k+1))=putF (fp (ps.take k)) X v5):=by
       show _=_
       funext x
       rw [HNX.out]
       unfold putF
       by_cases e:x=X
       ·subst e;rw [hf,if_pos rfl,if_pos ((HVX.out x).2 rfl)];rfl
       ·rw [if_neg (c:=valB l5 12=true/\sp l5=x) (fun h=>e ((HVX.out x).1 h)),if_neg e]
        cases hh:fp (ps.take k) x<;>rfl
      have HM3:Hid (Mv w3 w.heap.size c3 (putF (fp (ps.take k)) X v5)):=hm3
      have HB3:Hid (Below w.heap.size w w3):=HB2.out.trans (hk3.below (fun b hb=>by omega) HB2.out.size)
      clear hf hm3 hk3
      go_wp2
      go_roundw
      case rel=>exact ⟨k+1,c3,by omega,by go_num,by omega,by rw [HE.out];exact HM3.out,HB3.out⟩
      case measure=>simp [intOf];omega
  ·have hlz:¬ (k:Int) < (ps.length:Int):=by omega
   have HE:Hid (ps.take k=ps):=List.take_of_length_le (by omega)
   go_wp2
   go_ret
   exact ⟨⟨w.heap.size,rfl,Nat.le_refl _,c',by have:=HM.out;rwa [HE.out] at this⟩,HB.out⟩
end Wp13
namespace Wp9
open Go.RowKit
open Nd0 (Kept Ints WInts IntsIn lt_of_cell)
open Op6 (Pk PkAt Pks)
open Ta2 (bitB)
open Tc2 (sInT sInF ret_bool)
open Wp7
theorem sSame (w:World) (a b:Option Addr) (l m:List Int) (c d:Nat) (h:Ints w a l) (h':Ints w b m) :
 Calls Try.prog 85 #[.slice a l.length c,.slice b m.length d] w fun e w'=>e=.returned (.bool (decide (l=m)))/\Below w.heap.size w w':=by
 have H:Hid (Ints w a l):=h
 have H':Hid (Ints w b m):=h'
 have hm:=h.1
 unfold maxLen at hm
 clear h h'
 by_cases hl:l.length=m.length
 rotate_left
 ·have HF:Hid (decide (l=m)=false):=decide_eq_false (fun e=>hl (by rw [e]))
  have hz:((l.length:Int) != (m.length:Int))=true:=by simp;omega
  have hz2:¬ (l.length:Int)=(m.length:Int):=by omega
  clear hl
  go_enter Try.func85,Try.ntmps85
  go_wp2
  go_ret
  exact ⟨ret_bool HF.out.symm,Below.refl _ _⟩
 have HL:Hid (l.length=m.length):=hl
 obtain ⟨n,hn⟩:∃ n,n=l.length:=⟨_,rfl⟩
 rw [<- hl,<- hn]
 have HN:Hid (n=l.length):=hn
 rw [<- hn] at hm
 clear hl hn
 go_enter Try.func85,Try.ntmps85
 go_wp2
 go_loopw [5] (fun i wr=>∃ k:Nat,k<=n/\i=.int .i64 k/\(∀ j (h1:j < l.length) (h2:j < m.length),j < k->l[j]=m[j])/\Below w.heap.size w wr) (fun i _=>n - (intOf i).toNat)
 case atStart=>exact ⟨0,Nat.zero_le _,rfl,fun j _ _ hj=>by omega,Below.refl _ _⟩
 case round =>
  obtain ⟨k,hk,rfl,he,hb⟩:=hrel
  have HB:Hid (Below w.heap.size w wr):=hb
  clear hb
  have HE:Hid (∀ j (h1:j < l.length) (h2:j < m.length),j < k->l[j]=m[j]):=he
  clear he
  by_cases hlt:k < n
  ·have hlz:(k:Int) < (n:Int):=by omega
   have k1:k < l.length:=by have:=HN.out;omega
   have k2:k < m.length:=by have:=HN.out;have:=HL.out;omega
   obtain ⟨b1,o1,e1,c1⟩:∃ b o,a=some ⟨b,o,none⟩/\wr.cell? ⟨b,o+k,none⟩=some (.int .i64 l[k]):=by
    rcases (H.out.below HB.out).2 with e|⟨b,o,e,hc⟩
    ·omega
    ·exact ⟨b,o,e,hc k k1⟩
   obtain ⟨b2,o2,e2,c2⟩:∃ b' o,b=some ⟨b',o,none⟩/\wr.cell? ⟨b',o+k,none⟩=some (.int .i64 m[k]):=by
    rcases (H'.out.below HB.out).2 with e|⟨b,o,e,hc⟩
    ·omega
    ·exact ⟨b,o,e,hc k k2⟩
   subst e1 e2
   have hl1:=lt_of_cell c1
   have hl2:=lt_of_cell c2
   by_cases hx:l[k]=m[k]
   ·have HNX:Hid (∀ j (h1:j < l.length) (h2:j < m.length),j < k+1->l[j]=m[j]):=fun j h1 h2 h3=>by
     by_cases e:j=k
     ·subst e;exact hx
     ·exact HE.out j h1 h2 (by omega)
    rw [hx] at c1
    generalize m[k]=x at *
    clear hx
    have hxx:(x != x)=false:=by simp
    go_wp2
    go_quiet (fail)
    go_wp2
    go_roundw
    case rel=>exact ⟨k+1,by omega,by go_num,HNX.out,HB.out.trans ⟨rfl,rfl,rfl,Nat.le_refl _,fun _ _=>rfl⟩⟩
    case measure=>simp [intOf];omega
   ·have HF:Hid (decide (l=m)=false):=decide_eq_false (fun e=>hx (by subst e;rfl))
    have hxx:(l[k] != m[k])=true:=by simpa using hx
    generalize l[k]=x at *
    generalize m[k]=y at *
    go_wp2
    go_quiet (fail)
    go_wp2
    go_ret
    exact ⟨ret_bool HF.out.symm,HB.out.trans ⟨rfl,rfl,rfl,Nat.le_refl _,fun _ _=>rfl⟩⟩
  ·have hlz:¬ (k:Int) < (n:Int):=by omega
   have HT:Hid (decide (l=m)=true):=by
    refine decide_eq_true ?_
    apply List.ext_getElem HL.out
    intro j h1 h2
    exact HE.out j h1 h2 (by have:=HN.out;omega)
   go_wp2
   go_ret
   exact ⟨ret_bool HT.out.symm,HB.out⟩
/-- What a list picks behind some values. -/
def findP:List Pk->List Int->Int
 | [],_ => -1
 | p :: r,l=>if p.l=l then (if bitB p.v=true then p.v else -1) else findP r l
theorem find_drop {ps:List Pk} {j:Nat} (h:j < ps.length) (l:List Int):findP (ps.drop j) l=if ps[j].l=l then (if bitB ps[j].v=true then ps[j].v else -1) else findP (ps.drop (j+1)) l:=by
 rw [List.drop_eq_getElem_cons h]
 rfl
theorem bit_in {x:Int}:bitB x=true↔0<=x/\x<=1:=by
 unfold bitB
 rw [decide_eq_true_iff]
 omega
theorem ret_int {a b:Int} (h:a=b):Ending.returned (.int .i64 a)=.returned (.int .i64 b):=by rw [h]
theorem sFind (w:World) (a b:Option Addr) (ps:List Pk) (l:List Int) (c d:Nat) (h:Pks w a ps) (h':Ints w b l) :
 Calls Try.prog 74 #[.slice a ps.length c,.slice b l.length d] w fun e w'=>e=.returned (.int .i64 (findP ps l))/\Below w.heap.size w w':=by
 have H:Hid (Pks w a ps):=h
 have H':Hid (Ints w b l):=h'
 have hm:=h.1
 unfold maxLen at hm
 clear h h'
 go_enter Try.func74,Try.ntmps74
 go_wp2
 go_loopw [5] (fun i wr=>∃ k:Nat,k<=ps.length/\i=.int .i64 k/\findP ps l=findP (ps.drop k) l/\Below w.heap.size w wr) (fun i _=>ps.length - (intOf i).toNat)
 case atStart=>exact ⟨0,Nat.zero_le _,rfl,rfl,Below.refl _ _⟩
 case round =>
  obtain ⟨k,hk,rfl,he,hb⟩:=hrel
  have HB:Hid (Below w.heap.size w wr):=hb
  clear hb
  have HE:Hid (findP ps l=findP (ps.drop k) l):=he
  clear he
  by_cases hlt:k < ps.length
  ·have hlz:(k:Int) < (ps.length:Int):=by omega
   have HD:Hid _:=find_drop hlt l
   obtain ⟨b1,o1,e1,a5,c5,p0,p1,p2⟩:∃ b o,a=some ⟨b,o,none⟩/\PkAt wr b (o+k*2) ps[k]:=by
    rcases (pks_below H.out HB.out).2 with e|⟨b,o,e,hc⟩
    ·omega
    ·exact ⟨b,o,e,hc k hlt⟩
   subst e1
   have hbl:=lt_of_cell p0
   have HSM:Hid _:=sSame wr a5 b ps[k].l l c5 d p2 (H'.out.below HB.out)
   have P1:Hid (wr.cell? ⟨b1,o1+k*2+1,none⟩=some (.int .i64 ps[k].v)):=p1
   clear p2
   by_cases hx:ps[k].l=l
   ·rw [decide_eq_true hx] at HSM
    have HV:Hid (findP ps l=if bitB ps[k].v=true then ps[k].v else -1):=by
     show _=_
     rw [HE.out,HD.out,if_pos hx]
    clear hx HD
    generalize ps[k].l.length=n5 at *
    generalize ps[k].v=v5 at *
    cases hb:bitB v5
    ·have hno:¬ (0<=v5/\v5<=1):=fun e=>by rw [bit_in.2 e] at hb;cases hb
     have HR:Hid (findP ps l = -1):=by show _=_;rw [HV.out,hb];rfl
     clear hb
     go_wp2_with (first|(go_at_call 85;refine Calls.mono HSM.out ?_;rintro e w1 ⟨rfl,hb1⟩;have p1:w1.cell? ⟨b1,o1+k*2+1,none⟩=some (.int .i64 v5):=(by rw [hb1.cell (p:=⟨b1,o1+k*2+1,none⟩) hbl];exact P1.out);have hbl1:=lt_of_cell p1;have HB1:Hid (Below w.heap.size w w1):=HB.out.trans (hb1.mono HB.out.size);clear hb1)|(go_at_call 44;refine (sInF _ hno).mono ?_;rintro e w' ⟨rfl,hw'⟩;have hw'':=hw'.symm;clear hw';subst hw''))
     go_ret
     exact ⟨ret_int HR.out.symm,HB1.out⟩
    ·have hyes:=bit_in.1 hb
     have HR:Hid (findP ps l=v5):=by show _=_;rw [HV.out,hb];rfl
     clear hb
     go_wp2_with (first|(go_at_call 85;refine Calls.mono HSM.out ?_;rintro e w1 ⟨rfl,hb1⟩;have p1:w1.cell? ⟨b1,o1+k*2+1,none⟩=some (.int .i64 v5):=(by rw [hb1.cell (p:=⟨b1,o1+k*2+1,none⟩) hbl];exact P1.out);have hbl1:=lt_of_cell p1;have HB1:Hid (Below w.heap.size w w1):=HB.out.trans (hb1.mono HB.out.size);clear hb1)|(go_at_call 44;refine (sInT _ hyes).mono ?_;rintro e w' ⟨rfl,hw'⟩;have hw'':=hw'.symm;clear hw';subst hw''))
     go_ret
     exact ⟨ret_int HR.out.symm,HB1.out⟩
   ·rw [decide_eq_false hx] at HSM
    have HNX:Hid (findP ps l=findP (ps.drop (k+1)) l):=by
     show _=_
     rw [HE.out,HD.out,if_neg hx]
    clear hx HD
    generalize ps[k].l.length=n5 at *
    generalize ps[k].v=v5 at *
    go_wp2_with (go_at_call 85;refine Calls.mono HSM.out ?_;rintro e w1 ⟨rfl,hb1⟩;have p1:w1.cell? ⟨b1,o1+k*2+1,none⟩=some (.int .i64 v5):=(by rw [hb1.cell (p:=⟨b1,o1+k*2+1,none⟩) hbl];exact P1.out);have hbl1:=lt_of_cell p1;have HB1:Hid (Below w.heap.size w w1):=HB.out.trans (hb1.mono HB.out.size);clear hb1)
    go_roundw
    case rel=>exact ⟨k+1,by omega,by go_num,HNX.out,HB1.out⟩
    case measure=>simp [intOf];omega
  ·have hlz:¬ (k:Int) < (ps.length:Int):=by omega
   have HR:Hid (findP ps l = -1):=by
    show _=_
    rw [HE.out,List.drop_of_length_le (by omega)]
    rfl
   go_wp2
   go_ret
   exact ⟨ret_int HR.out.symm,HB.out⟩
end Wp9
namespace Wp14
open Go.RowKit
open Nd0 (Kept Ints WInts IntsIn lt_of_cell)
open Op6 (Pk PkAt Pks)
open Ta2 (bitB plc)
open Vo0 (allB valB iVals)
open Tc2 (tv)
open Mv0 (Mv Sp Sm putF)
open Wp9 (findP bit_in)
open Wp12 Wp13
theorem plc_pre (l:List Int) (y:Int) (k:Nat) (h:k<=l.length):plc (l++[y]) k=plc l k:=by
 induction k with
 | zero=>rfl
 | succ k ih =>
   show 2*plc (l++[y]) k+((l++[y]).getD k 0).toNat=2*plc l k+(l.getD k 0).toNat
   have e:(l++[y]).getD k 0=l.getD k 0:=by simp [List.getD,List.getElem?_append_left (show k < l.length by omega)]
   rw [e,ih (by omega)]
theorem plc_snoc (l:List Int) (y:Int):plc (l++[y]) (l++[y]).length=2*plc l l.length+y.toNat:=by
 rw [List.length_append,List.length_singleton]
 show 2*plc (l++[y]) l.length+((l++[y]).getD l.length 0).toNat=_
 rw [plc_pre l y l.length (Nat.le_refl _)]
 simp [List.getD]
/-- Bits are told by how many they are and by their number. -/
theorem sp_inj (n:Nat):∀ {l m:List Int},l.length=n->m.length=n->(∀ b∈l,bitB b=true)->(∀ b∈m,bitB b=true)->plc l l.length=plc m m.length->l=m:=by
 induction n with
 | zero =>
   intro l m h1 h2 _ _ _
   rw [List.eq_nil_of_length_eq_zero h1,List.eq_nil_of_length_eq_zero h2]
 | succ n ih =>
   intro l m h1 h2 h3 h4 h5
   have hl:l≠[]:=fun e=>by rw [e] at h1;cases h1
   have hm:m≠[]:=fun e=>by rw [e] at h2;cases h2
   obtain ⟨l',x,rfl⟩:∃ l' x,l=l'++[x]:=⟨l.dropLast,l.getLast hl,(List.dropLast_concat_getLast hl).symm⟩
   obtain ⟨m',y,rfl⟩:∃ m' y,m=m'++[y]:=⟨m.dropLast,m.getLast hm,(List.dropLast_concat_getLast hm).symm⟩
   rw [List.length_append,List.length_singleton] at h1 h2
   rw [plc_snoc,plc_snoc] at h5
   have hx:=bit_in.1 (h3 x (by simp))
   have hy:=bit_in.1 (h4 y (by simp))
   have e1:x=y:=by omega
   have e2:l'=m':=ih (by omega) (by omega) (fun b hb=>h3 b (by simp [hb])) (fun b hb=>h4 b (by simp [hb])) (by omega)
   rw [e1,e2]
theorem val_mem {l:List Int} (h:valB l 12=true):(∀ b∈l,bitB b=true)/\l.length<=12:=by
 unfold valB allB at h
 simp at h
 exact ⟨h.1,by omega⟩
theorem sp_eq {l m:List Int} (hl:valB l 12=true) (hm:valB m 12=true):sp l=sp m↔l=m:=by
 refine ⟨fun h=>?_,fun h=>by rw [h]⟩
 have e1:l.length=m.length:=congrArg Prod.fst h
 have e2:plc l l.length=plc m m.length:=congrArg Prod.snd h
 exact sp_inj l.length rfl e1.symm (val_mem hl).1 (val_mem hm).1 e2
/-- What the map says at right values is what the list picks. -/
theorem fp_find {ps:List Pk} {vs:List Int} (h:valB vs 12=true):findP ps vs=(match fp ps (sp vs) with|some v=>if bitB v=true then v else -1|none => -1):=by
 induction ps with
 | nil=>rfl
 | cons p r ih =>
   unfold findP fp
   by_cases e:p.l=vs
   ·have hy:valB p.l 12=true/\sp p.l=sp vs:=⟨by rw [e];exact h,by rw [e]⟩
    rw [if_pos e,if_pos (c:=valB p.l 12=true/\sp p.l=sp vs) hy]
   ·have hn:¬ (valB p.l 12=true/\sp p.l=sp vs):=fun c=>e ((sp_eq c.1 h).1 c.2)
    rw [if_neg e,if_neg hn,ih]
theorem iGive (va:Option Addr) (vs:List Int) (vc:Nat) (N:Int) (S:ByteArray) (mb bm k:Nat) (f:Sp->Option Int) (w:World) (h:valB vs 12=true) (hI:Ints w va vs) (hm:w.cell? ⟨mb,0,none⟩=some (.map (some bm))) (hM:Mv w bm k f) :
 Calls Try.prog 36 #[.slice va vs.length vc,tv N S,.pointer (some ⟨mb,0,none⟩)] w fun e w'=>e=.returned (.tuple #[.int .i64 ((f (sp vs)).getD 0),.bool (f (sp vs)).isSome])/\Below w.heap.size w w':=by
 obtain ⟨v1,v2⟩:=val_bits h
 obtain ⟨X0,hX0⟩:∃ X,X=w.alloc (.cells #[.int .i64 N,.string S] 26):=⟨_,rfl⟩
 have HB0:Hid (Below w.heap.size w X0):=by rw [hX0];exact (Below.refl _ _).alloc (Nat.le_refl _) _
 have hE:w.alloc (.cells #[.int .i64 N,.string S] 26)=X0:=hX0.symm
 have HBD:Hid (Below w.heap.size w X0.drew):=HB0.out.drew
 have cD:X0.drew.cell? ⟨mb,0,none⟩=some (.map (some bm)):=by rw [HBD.out.cell (p:=⟨mb,0,none⟩) (lt_of_cell hm)];exact hm
 have HSP:Hid _:=iSpot va vs vc X0.drew v2 v1 (hI.below HBD.out)
 have HMD:Hid (Mv X0.drew bm k f):=hM.below HBD.out
 have HSM:Hid (Sm (sp vs)):=sp_small h
 have hmb:=lt_of_cell cD
 have CD:Hid (X0.drew.cell? ⟨mb,0,none⟩=some (.map (some bm))):=cD
 obtain ⟨X,hX⟩:∃ X:Sp,X=sp vs:=⟨_,rfl⟩
 have hX1:(vs.length:Int)=(X.1:Int):=by rw [hX];rfl
 have hX2:((plc vs vs.length:Nat):Int)=(X.2:Int):=by rw [hX];rfl
 rw [hX2] at HSP
 have HSP2:Hid (Calls Try.prog 37 #[.slice va vs.length vc] X0.drew fun e w'=>e=.returned (Mv0.agg X)/\Below X0.drew.heap.size X0.drew w'):=Calls.mono HSP.out fun e w' h=>by rw [hX1] at h;exact h
 rw [<- hX] at HSM ⊢
 clear hX0 h v1 v2 hI hm hM HSP hX hX1 hX2
 go_enter Try.func36,Try.ntmps36
 go_upto_region 1 with fail
 clear hE
 go_region_held3 (fun w'=>w'.cell? ⟨mb,0,none⟩=some (.map (some bm))) ((first|(with_reducible exact CD.out)|(with_reducible exact CE.out))) ((go_at_call 37;(with_reducible refine Calls.mono HSP2.out ?_);rintro e x1 ⟨rfl,hb1⟩;have CE:Hid (x1.cell? ⟨mb,0,none⟩=some (.map (some bm))):=(by show _=_;rw [hb1.cell (p:=⟨mb,0,none⟩) (lt_of_cell CD.out)];exact CD.out);have hlk:=(HMD.out.below hb1).look HSM.out;have HB1:Hid (Below w.heap.size w x1):=HBD.out.trans (hb1.mono HBD.out.size);clear hb1))
 go_wp2
 go_ret2
 exact ⟨rfl,HB1.out⟩
end Wp14
namespace Wp10
open Go.RowKit
open Nd0 (Kept Ints WInts IntsIn lt_of_cell)
open Nd6 (Bools)
open Op6 (Pk PkAt Pks)
open Ta1 (tab)
open Ta2 (bitB)
open Ta3 (hb)
open Tc2 (tv sInT sInF ret_bool)
open Tc5 (Lay)
open Td1 (knw sKnown knw_same)
open Td4 (sHalf)
open Ss0 (bs)
open Ap0 Wp7 Wp9 Wq0
open Go.Sort (grow)
/-- Whether a list is a strategy for the verdict v, from some values on. -/
def chk (ps:List Pk) (v:Int):List Bool->(Nat->Bool)->List Int->Bool
 | [],F,_=>decide (knw 0 F=v)
 | q :: r,F,vs=>if 0<=knw (r.length+1) F then decide (knw (r.length+1) F=v)
   else if (q==(v==0))=true then (if findP ps vs=0 then chk ps v r (hb r.length 0 F) (vs++[0]) else if findP ps vs=1 then chk ps v r (hb r.length 1 F) (vs++[1]) else false)
   else (chk ps v r (hb r.length 0 F) (vs++[0])&&chk ps v r (hb r.length 1 F) (vs++[1]))
def MC (ps:List Pk) (v:Int) (row:List Bool):Prop:=∀ (F:Nat->Bool) (W:World) (ra la va:Option Addr) (c lc vc:Nat) (vs:List Int),Bools W ra row->row.length<=c->Pks W la ps->Ints W va vs->vs.length+row.length<=100 ->
 Calls Try.prog 45 #[.slice ra row.length c,tv (row.length:Int) (bs (tab row.length F)),.int .i64 v,.slice la ps.length lc,.slice va vs.length vc] W fun e w'=>e=.returned (.bool (chk ps v row F vs))/\Below W.heap.size W w'
theorem knw_zero (F:Nat->Bool):0<=knw 0 F:=by
 rw [knw_same (fun j hj=>by have:j=0:=(by simpa using hj);rw [this])]
 omega
/-- What is known. -/
theorem mc_known (ps:List Pk) (v:Int) (n:Nat) (F:Nat->Bool) (hn:n<=12) (W:World) (ra la va:Option Addr) (k c lc vc m:Nat) (b:Bool) (hk:0<=knw n F) (hb:b=decide (knw n F=v)) :
 Calls Try.prog 45 #[.slice ra k c,tv (n:Int) (bs (tab n F)),.int .i64 v,.slice la ps.length lc,.slice va m vc] W fun e w'=>e=.returned (.bool b)/\Below W.heap.size W w':=by
 obtain ⟨X0,hX0⟩:∃ X,X=W.alloc (.cells #[.int .i64 (n:Int),.string (bs (tab n F))] 26):=⟨_,rfl⟩
 have HB0:Hid (Below W.heap.size W X0):=by rw [hX0];exact (Below.refl _ _).alloc (Nat.le_refl _) _
 have HL0:Hid (Lay X0 W.heap.size (.int .i64 (n:Int)) (.string (bs (tab n F)))):=by rw [hX0];exact Lay.made _ _ _ _
 have hE:W.alloc (.cells #[.int .i64 (n:Int),.string (bs (tab n F))] 26)=X0:=hX0.symm
 have HKN:Hid (∀ W,Calls Try.prog 73 #[tv (n:Int) (bs (tab n F))] W fun e w'=>e=.returned (.int .i64 (knw n F))/\Below W.heap.size W w'):=fun W=>sKnown n F W hn
 have HBQ:Hid (b=decide (knw n F=v)):=hb
 clear hX0 hb hn
 generalize knw n F=kn at *
 generalize bs (tab n F)=S at *
 go_enter Try.func45,Try.ntmps45
 go_upto_region 1 with fail
 clear hE
 obtain ⟨d0,d1,_,_⟩:=HL0.out
 have hd:=HL0.out.lt
 go_wp2_with fail
 clear d0 d1 hd
 refine (HKN.out _).mono ?_
 rintro e w1 ⟨rfl,hb1⟩
 have HB1:Hid (Below W.heap.size W w1):=HB0.out.trans (hb1.mono HB0.out.size)
 clear hb1
 have HQ:Hid ((kn==v)=b):=by show _=_;rw [HBQ.out];rfl
 cases hq:(kn==v)
 ·have HR:Hid (b=false):=by show _=_;rw [<- HQ.out,hq]
  go_wp2
  go_ret
  exact ⟨ret_bool HR.out.symm,HB1.out⟩
 ·have HR:Hid (b=true):=by show _=_;rw [<- HQ.out,hq]
  go_wp2
  go_ret
  exact ⟨ret_bool HR.out.symm,HB1.out⟩
/-- What is not known. -/
theorem mc_on (ps:List Pk) (v:Int) (n:Nat) (F:Nat->Bool) (hn:n<=11) (q:Bool) (W:World) (b o t:Nat) (la va:Option Addr) (c c1 lc vc:Nat) (vs:List Int) (z0 z1:Bool) (hk:¬ 0<=knw (n+1) F)
 (p0:W.cell? ⟨b,o,none⟩=some (.bool q)) (hsl:∀ w:World,(Instr.slice 24 (.slice (some ⟨b,o,none⟩) (n+1) c) (some (.int .i64 1)) none none).run Try.prog w=.ok (.slice (some ⟨b,t,none⟩) n c1) w)
 (hP:Pks W la ps) (hI:Ints W va vs) (hlen:vs.length<=100)
 (h0:∀ (W':World) a c,Below W.heap.size W W'->Ints W' a (vs++[0])->Calls Try.prog 45 #[.slice (some ⟨b,t,none⟩) n c1,tv (n:Int) (bs (tab n (hb n 0 F))),.int .i64 v,.slice la ps.length lc,.slice a (vs.length+1) c] W' fun e w'=>e=.returned (.bool z0)/\Below W'.heap.size W' w')
 (h1:∀ (W':World) a c,Below W.heap.size W W'->Ints W' a (vs++[1])->Calls Try.prog 45 #[.slice (some ⟨b,t,none⟩) n c1,tv (n:Int) (bs (tab n (hb n 1 F))),.int .i64 v,.slice la ps.length lc,.slice a (vs.length+1) c] W' fun e w'=>e=.returned (.bool z1)/\Below W'.heap.size W' w') :
 Calls Try.prog 45 #[.slice (some ⟨b,o,none⟩) (n+1) c,tv ((n:Int)+1) (bs (tab (n+1) F)),.int .i64 v,.slice la ps.length lc,.slice va vs.length vc] W fun e w'=>e=.returned (.bool (if (q==(v==0))=true then (if findP ps vs=0 then z0 else if findP ps vs=1 then z1 else false) else (z0&&z1)))/\Below W.heap.size W w':=by
 obtain ⟨R,hR⟩:∃ R,R=(if (q==(v==0))=true then (if findP ps vs=0 then z0 else if findP ps vs=1 then z1 else false) else (z0&&z1)):=⟨_,rfl⟩
 have HR:Hid (R=(if (q==(v==0))=true then (if findP ps vs=0 then z0 else if findP ps vs=1 then z1 else false) else (z0&&z1))):=hR
 rw [<- hR]
 obtain ⟨X0,hX0⟩:∃ X,X=W.alloc (.cells #[.int .i64 ((n:Int)+1),.string (bs (tab (n+1) F))] 26):=⟨_,rfl⟩
 have HB0:Hid (Below W.heap.size W X0):=by rw [hX0];exact (Below.refl _ _).alloc (Nat.le_refl _) _
 have HL0:Hid (Lay X0 W.heap.size (.int .i64 ((n:Int)+1)) (.string (bs (tab (n+1) F)))):=by rw [hX0];exact Lay.made _ _ _ _
 have hE:W.alloc (.cells #[.int .i64 ((n:Int)+1),.string (bs (tab (n+1) F))] 26)=X0:=hX0.symm
 have HKN:Hid (∀ W,Calls Try.prog 73 #[tv ((n:Int)+1) (bs (tab (n+1) F))] W fun e w'=>e=.returned (.int .i64 (knw (n+1) F))/\Below W.heap.size W w'):=fun W=>sKnown (n+1) F W (by omega)
 have HH0:Hid (∀ W,Calls Try.prog 63 #[tv ((n:Int)+1) (bs (tab (n+1) F)),.int .i64 0] W fun e w'=>e=.returned (.tuple #[tv (n:Int) (bs (tab n (hb n 0 F))),.bool true])/\Below W.heap.size W w'):=fun W=>sHalf n 0 F W (by omega) (by omega)
 have HH1:Hid (∀ W,Calls Try.prog 63 #[tv ((n:Int)+1) (bs (tab (n+1) F)),.int .i64 1] W fun e w'=>e=.returned (.tuple #[tv (n:Int) (bs (tab n (hb n 1 F))),.bool true])/\Below W.heap.size W w'):=fun W=>sHalf n 1 F W (by omega) (by omega)
 have HF:Hid (∀ W',Below W.heap.size W W'->Calls Try.prog 74 #[.slice la ps.length lc,.slice va vs.length vc] W' fun e w'=>e=.returned (.int .i64 (findP ps vs))/\Below W'.heap.size W' w'):=fun W' hb=>sFind W' la va ps vs lc vc (pks_below hP hb) (hI.below hb)
 have HI0:Hid _:=h0
 have HI1:Hid _:=h1
 have HV:Hid (Ints W va vs):=hI
 have HLV:Hid (vs.length<=1048576):=by show _<=_;omega
 have P0:Hid (W.cell? ⟨b,o,none⟩=some (.bool q)):=p0
 clear hR hX0 h0 h1 hP hI p0 hn hlen
 generalize knw (n+1) F=kn at *
 generalize bs (tab (n+1) F)=S at *
 generalize bs (tab n (hb n 0 F))=S0 at *
 generalize bs (tab n (hb n 1 F))=S1 at *
 go_enter Try.func45,Try.ntmps45
 go_upto_region 1 with fail
 clear hE
 obtain ⟨d0,d1,_,_⟩:=HL0.out
 have hd:=HL0.out.lt
 go_wp2_with fail
 clear d0 d1 hd
 refine (HKN.out _).mono ?_
 rintro e w1 ⟨rfl,hb1⟩
 have HB1:Hid (Below W.heap.size W w1):=HB0.out.trans (hb1.mono HB0.out.size)
 have HL1:Hid (Lay w1 W.heap.size (.int .i64 ((n:Int)+1)) (.string S)):=HL0.out.below hb1
 clear hb1 HB0 HL0
 obtain ⟨d0,d1,_,_⟩:=HL1.out
 have hd:=HL1.out.lt
 go_wp2_with fail
 clear d0 d1 hd
 refine (HH0.out _).mono ?_
 rintro e w2 ⟨rfl,hb2⟩
 go_upto_region 5 with fail
 obtain ⟨W2,hW2⟩:∃ X,X=w2.alloc (.cells #[.int .i64 (n:Int),.string S0] 26):=⟨_,rfl⟩
 obtain ⟨ql,hql⟩:∃ q,q=w2.heap.size:=⟨_,rfl⟩
 have hb3:Below w1.heap.size w1 W2:=by rw [hW2];exact hb2.alloc hb2.size _
 have HB2:Hid (Below W.heap.size W W2):=HB1.out.trans (hb3.mono HB1.out.size)
 have HL2:Hid (Lay W2 W.heap.size (.int .i64 ((n:Int)+1)) (.string S)):=HL1.out.below hb3
 have HA2:Hid (Lay W2 ql (.int .i64 (n:Int)) (.string S0)):=by rw [hW2,hql];exact Lay.made _ _ _ _
 rw [<- hW2,<- hql]
 clear hW2 hql hb2 hb3 HB1 HL1
 obtain ⟨d0,d1,_,_⟩:=HL2.out
 have hd:=HL2.out.lt
 go_wp2_with fail
 clear d0 d1 hd
 refine (HH1.out _).mono ?_
 rintro e w3 ⟨rfl,hb3⟩
 go_upto_region 6 with fail
 obtain ⟨W3,hW3⟩:∃ X,X=w3.alloc (.cells #[.int .i64 (n:Int),.string S1] 26):=⟨_,rfl⟩
 obtain ⟨qh,hqh⟩:∃ q,q=w3.heap.size:=⟨_,rfl⟩
 have hb4:Below W2.heap.size W2 W3:=by rw [hW3];exact hb3.alloc hb3.size _
 have HB3:Hid (Below W.heap.size W W3):=HB2.out.trans (hb4.mono HB2.out.size)
 have HA3:Hid (Lay W3 ql (.int .i64 (n:Int)) (.string S0)):=HA2.out.below hb4
 have HC3:Hid (Lay W3 qh (.int .i64 (n:Int)) (.string S1)):=by rw [hW3,hqh];exact Lay.made _ _ _ _
 rw [<- hW3,<- hqh]
 clear hW3 hqh hb3 hb4 HB2 HL2 HA2
 go_upto_region 7 with (at_builtin;go_must (first|(refine app_int _ rfl _ _ rfl w5.heap.size v6 vs 1 rfl rfl HO6.out HB6.out.size HLV.out ?_;intro g7 cp7 w7 ho7 hk7 hg7;have HO7:Hid (Ows w7 w5.heap.size (.slice (some ⟨g7,0,none⟩) (vs.length+1) cp7) (vs++[1])):=ho7;have HB7:Hid (Below w5.heap.size w5 w7):=HB6.out.trans (hk7.below (fun i hi=>(HO6.out.lt i hi).1) HB6.out.size);clear ho7 hk7 hg7)|(refine allIs _ rfl _ _ rfl vs va vc _ rfl rfl rfl (HV.out.below (HB3.out.trans (HB5.out.mono HB3.out.size))) HLV.out ?_;intro v6 w6 ho6 hb6;have HO6:Hid (Ows w6 w5.heap.size v6 vs):=ho6;have HB6:Hid (Below w5.heap.size w5 w6):=hb6;clear ho6 hb6)|(refine app_int _ rfl _ _ rfl W3.heap.size v4 vs 0 rfl rfl HO4.out HB4.out.size HLV.out ?_;intro g5 cp5 w5 ho5 hk5 hg5;have HO5:Hid (Ows w5 W3.heap.size (.slice (some ⟨g5,0,none⟩) (vs.length+1) cp5) (vs++[0])):=ho5;have HB5:Hid (Below W3.heap.size W3 w5):=HB4.out.trans (hk5.below (fun i hi=>(HO4.out.lt i hi).1) HB4.out.size);clear ho5 hk5 hg5)|(refine allIs _ rfl _ _ rfl vs va vc _ rfl rfl rfl (HV.out.below HB3.out) HLV.out ?_;intro v4 w4 ho4 hb4;have HO4:Hid (Ows w4 W3.heap.size v4 vs):=ho4;have HB4:Hid (Below W3.heap.size W3 w4):=hb4;clear ho4 hb4)))
 have HBW:Hid (Below W.heap.size W w7):=(HB3.out.trans (HB5.out.mono HB3.out.size)).trans (HB7.out.mono (Nat.le_trans HB3.out.size HB5.out.size))
 have h57:Below W3.heap.size W3 w7:=HB5.out.trans (HB7.out.mono HB5.out.size)
 have HA7:Hid (Lay w7 ql (.int .i64 (n:Int)) (.string S0)):=HA3.out.below h57
 have HC7:Hid (Lay w7 qh (.int .i64 (n:Int)) (.string S1)):=HC3.out.below h57
 have HZ0:Hid (Ints w7 (some ⟨g5,0,none⟩) (vs++[0])):=by
  obtain ⟨a9,c9,e9,f9⟩:=HO5.out.form
  injection e9 with ea eb ec
  rw [<- ea] at f9
  exact f9.ints.below HB7.out
 have HZ1:Hid (Ints w7 (some ⟨g7,0,none⟩) (vs++[1])):=by
  obtain ⟨a9,c9,e9,f9⟩:=HO7.out.form
  injection e9 with ea eb ec
  rw [<- ea] at f9
  exact f9.ints
 have p0:w7.cell? ⟨b,o,none⟩=some (.bool q):=by rw [HBW.out.cell (p:=⟨b,o,none⟩) (lt_of_cell P0.out)];exact P0.out
 have hpl:=lt_of_cell p0
 clear h57 HB3 HB4 HB5 HB6 HB7 HO4 HO5 HO6 HO7 HA3 HC3 HKN HH0 HH1 HV P0
 obtain ⟨z,hz⟩:∃ z,z=findP ps vs:=⟨_,rfl⟩
 rw [<- hz] at HF HR
 clear hz hk
 have hcn:(1:Int)<=(n:Int)+1:=by omega
 cases ht:(q==(v==0))
 ·have HRR:Hid (R=(z0&&z1)):=by show _=_;rw [HR.out,ht];rfl
  clear HR
  go_upto_region 14 with fail
  clear p0 hpl ht HF
  have HQ0:Hid (∀ d os,Calls Try.prog 45 #[.slice (some ⟨b,t,none⟩) n c1,tv (n:Int) S0,.int .i64 v,.slice la ps.length lc,.slice (some ⟨g5,0,none⟩) (vs.length+1) cp5] (grow (redrawn w7 d) os) fun e w''=>e=.returned (.bool z0)/\∃ p:Regrown,w''=grow (redrawn w7 p.d) p.os):=fun d os=>Calls.regrown_of (HI0.out _ _ _ (HBW.out.trans ((below_regrown w7 d os).mono HBW.out.size)) (HZ0.out.below (below_regrown w7 d os)))
  cases z0
  ·have HR3:Hid (R=false):=by show _=_;rw [HRR.out];rfl
   have a0:∀ d os,(grow (redrawn w7 d) os).cell? ⟨ql,0,none⟩=some (.int .i64 (n:Int)):=fun d os=>cell_regrown HA7.out.c0 d os
   have a1:∀ d os,(grow (redrawn w7 d) os).cell? ⟨ql,1,none⟩=some (.string S0):=fun d os=>cell_regrown HA7.out.c1 d os
   clear HZ0 HZ1 HI0 HI1 HA7 HC7 HRR HLV
   refine wp_region_quiet_below (by kernel_rfl) (by kernel_rfl) ?_
   iterate 17 (go_big_quiet_step ((go_at_call 45;exact HQ0.out _ _)))
   refine wpQuiet_nil ?_
   intro w9 hw9
   obtain ⟨pp,hw8⟩:=hw9
   subst hw8
   go_wp2
   go_ret
   exact ⟨ret_bool HR3.out.symm,HBW.out.trans ((below_regrown w7 pp.d pp.os).mono HBW.out.size)⟩
  ·have HR3:Hid (R=z1):=by show _=_;rw [HRR.out];rfl
   have dd:Below w7.heap.size w7 w7.drew:=(Below.refl _ _).drew
   have HBD:Hid (Below W.heap.size W w7.drew):=HBW.out.drew
   have LAD:=HA7.out.below dd
   have LCD:=HC7.out.below dd
   have Z0D:Hid (Ints w7.drew (some ⟨g5,0,none⟩) (vs++[0])):=HZ0.out.below dd
   have Z1D:Hid (Ints w7.drew (some ⟨g7,0,none⟩) (vs++[1])):=HZ1.out.below dd
   clear dd HBW HA7 HC7 HZ0 HZ1 HQ0
   go_region_held3 (fun w'=>w'.cell? ⟨ql,0,none⟩=some (.int .i64 (n:Int))/\w'.cell? ⟨ql,1,none⟩=some (.string S0)/\w'.cell? ⟨qh,0,none⟩=some (.int .i64 (n:Int))/\w'.cell? ⟨qh,1,none⟩=some (.string S1)) ((first|(with_reducible exact ⟨LAD.c0,LAD.c1,LCD.c0,LCD.c1⟩)|(with_reducible exact ⟨LAE.c0,LAE.c1,LCE.c0,LCE.c1⟩)|(with_reducible exact ⟨LAG.c0,LAG.c1,LCG.c0,LCG.c1⟩))) ((first|(go_at_call 45;(with_reducible refine (HI0.out _ _ _ HBD.out Z0D.out).mono ?_);rintro e w9 ⟨rfl,hb9⟩;have LAE:=LAD.below hb9;have LCE:=LCD.below hb9;have Z1E:Hid (Ints w9 (some ⟨g7,0,none⟩) (vs++[1])):=Z1D.out.below hb9;have HB9:Hid (Below W.heap.size W w9):=HBD.out.trans (hb9.mono HBD.out.size);clear hb9)|(go_at_call 45;(with_reducible refine (HI1.out _ _ _ HB9.out Z1E.out).mono ?_);rintro e w10 ⟨rfl,hb9⟩;have LAG:=LAE.below hb9;have LCG:=LCE.below hb9;have HB10:Hid (Below W.heap.size W w10):=HB9.out.trans (hb9.mono HB9.out.size);clear hb9)))
   go_wp2
   go_ret
   exact ⟨ret_bool HR3.out.symm,HB10.out⟩
 ·have HRR:Hid (R=(if z=0 then z0 else if z=1 then z1 else false)):=by show _=_;rw [HR.out,ht];rfl
  clear HR
  go_wp2_with fail
  clear p0 hpl ht
  refine (HF.out _ HBW.out).mono ?_
  rintro e w8 ⟨rfl,hb8⟩
  have HB8:Hid (Below W.heap.size W w8):=HBW.out.trans (hb8.mono HBW.out.size)
  have HA8:Hid (Lay w8 ql (.int .i64 (n:Int)) (.string S0)):=HA7.out.below hb8
  have HC8:Hid (Lay w8 qh (.int .i64 (n:Int)) (.string S1)):=HC7.out.below hb8
  have HZ08:Hid (Ints w8 (some ⟨g5,0,none⟩) (vs++[0])):=HZ0.out.below hb8
  have HZ18:Hid (Ints w8 (some ⟨g7,0,none⟩) (vs++[1])):=HZ1.out.below hb8
  clear hb8 HBW HA7 HC7 HZ0 HZ1 HF
  have dd:Below w8.heap.size w8 w8.drew:=(Below.refl _ _).drew
  have HBD:Hid (Below W.heap.size W w8.drew):=HB8.out.drew
  have LAD:=HA8.out.below dd
  have LCD:=HC8.out.below dd
  have Z0D:Hid (Ints w8.drew (some ⟨g5,0,none⟩) (vs++[0])):=HZ08.out.below dd
  have Z1D:Hid (Ints w8.drew (some ⟨g7,0,none⟩) (vs++[1])):=HZ18.out.below dd
  clear dd
  by_cases e0:z=0
  ·have hz0:(z==0)=true:=by rw [e0];rfl
   have HR3:Hid (R=z0):=by show _=_;rw [HRR.out,if_pos e0]
   clear e0
   go_upto_region 10 with fail
   go_region_held3 (fun w'=>w'.cell? ⟨ql,0,none⟩=some (.int .i64 (n:Int))/\w'.cell? ⟨ql,1,none⟩=some (.string S0)) ((first|(with_reducible exact ⟨LAD.c0,LAD.c1⟩)|(with_reducible exact ⟨LAE.c0,LAE.c1⟩))) ((go_at_call 45;(with_reducible refine (HI0.out _ _ _ HBD.out Z0D.out).mono ?_);rintro e w9 ⟨rfl,hb9⟩;have LAE:=LAD.below hb9;have HB9:Hid (Below W.heap.size W w9):=HBD.out.trans (hb9.mono HBD.out.size);clear hb9))
   go_wp2
   go_ret
   exact ⟨ret_bool HR3.out.symm,HB9.out⟩
  ·have hz0:(z==0)=false:=beq_eq_false_iff_ne.2 e0
   by_cases e1:z=1
   ·have hz1:(z==1)=true:=by rw [e1];rfl
    have HR3:Hid (R=z1):=by show _=_;rw [HRR.out,if_neg e0,if_pos e1]
    clear e0 e1
    go_upto_region 12 with fail
    go_region_held3 (fun w'=>w'.cell? ⟨qh,0,none⟩=some (.int .i64 (n:Int))/\w'.cell? ⟨qh,1,none⟩=some (.string S1)) ((first|(with_reducible exact ⟨LCD.c0,LCD.c1⟩)|(with_reducible exact ⟨LCE.c0,LCE.c1⟩))) ((go_at_call 45;(with_reducible refine (HI1.out _ _ _ HBD.out Z1D.out).mono ?_);rintro e w9 ⟨rfl,hb9⟩;have LCE:=LCD.below hb9;have HB9:Hid (Below W.heap.size W w9):=HBD.out.trans (hb9.mono HBD.out.size);clear hb9))
    go_wp2
    go_ret
    exact ⟨ret_bool HR3.out.symm,HB9.out⟩
   ·have hz1:(z==1)=false:=beq_eq_false_iff_ne.2 e1
    have HR3:Hid (R=false):=by show _=_;rw [HRR.out,if_neg e0,if_neg e1]
    clear e0 e1
    go_wp2
    go_ret
    exact ⟨ret_bool HR3.out.symm,HB8.out⟩
theorem mc_nil (ps:List Pk) (v:Int):MC ps v []:=by
 intro F W ra la va c lc vc vs _ _ _ _ _
 exact mc_known ps v 0 F (by omega) W ra la va 0 c lc vc vs.length _ (knw_zero F) rfl
theorem mc_cons {ps:List Pk} {v:Int} {q:Bool} {r:List Bool} (hr:r.length<=11) (ih:MC ps v r):MC ps v (q :: r):=by
 intro F W ra la va c lc vc vs hB hc hP hI hlen
 rw [List.length_cons] at hc hlen ⊢
 by_cases hk:0<=knw (r.length+1) F
 ·exact mc_known ps v (r.length+1) F (by omega) W ra la va (r.length+1) c lc vc vs.length _ hk (by unfold chk;rw [if_pos hk])
 ·obtain ⟨b,o,rfl,p0,t,ht,hT⟩:=Wq0.tail hB hc
  have h:=mc_on ps v r.length F hr q W b o t la va c (c - 1) lc vc vs (chk ps v r (hb r.length 0 F) (vs++[0])) (chk ps v r (hb r.length 1 F) (vs++[1])) hk p0 (slc b o r.length c t (c - 1) hc ht rfl) hP hI (by omega)
   (fun W' a cc hbw hi=>by
    have h:=ih (hb r.length 0 F) W' (some ⟨b,t,none⟩) la a (c - 1) lc cc (vs++[0]) (hT.below hbw) (by omega) (pks_below hP hbw) hi (by rw [List.length_append,List.length_singleton];omega)
    rw [List.length_append,List.length_singleton] at h
    exact h)
   (fun W' a cc hbw hi=>by
    have h:=ih (hb r.length 1 F) W' (some ⟨b,t,none⟩) la a (c - 1) lc cc (vs++[1]) (hT.below hbw) (by omega) (pks_below hP hbw) hi (by rw [List.length_append,List.length_singleton];omega)
    rw [List.length_append,List.length_singleton] at h
    exact h)
  have e:chk ps v (q :: r) F vs=(if (q==(v==0))=true then (if findP ps vs=0 then chk ps v r (hb r.length 0 F) (vs++[0]) else if findP ps vs=1 then chk ps v r (hb r.length 1 F) (vs++[1]) else false) else (chk ps v r (hb r.length 0 F) (vs++[0])&&chk ps v r (hb r.length 1 F) (vs++[1]))):=by
   conv=>lhs;unfold chk
   rw [if_neg hk]
  rw [e]
  exact h
theorem mc_all (ps:List Pk) (v:Int):∀ row:List Bool,row.length<=12->MC ps v row:=by
 intro row
 induction row with
 | nil=>exact fun _=>mc_nil ps v
 | cons q r ih=>exact fun h=>mc_cons (by rw [List.length_cons] at h;omega) (ih (by rw [List.length_cons] at h;omega))
end Wp10
namespace Wp20
open Go.RowKit
open Nd0 (Kept Ints WInts lt_of_cell)
open Nd6 (Bools)
open Op6 (Pk PkAt Pks)
open Ta1 (tab tab_length)
open Ta2 (bitB)
open Ta3 (hb)
open Tc2 (tv ret_bool)
open Tc5 (Lay)
open Td1 (knw)
open Te3 (iHalf iHalf0)
open Ss0 (bs bs_size)
open Vo0 (allB valB)
open Mv0 (Mv Sp Sm)
open Dq1 (ownF)
open Wp9 (findP)
open Wp10 (chk knw_zero)
open Wp13 (sp fp)
open Wp14 (iGive fp_find)
open Ap0 Wp12 Wp15 Wp16 Wp17 Wp18 Wp19
/-- What Checks' giver keeps: the map. -/
def Jc (mb bm c:Nat) (ps:List Pk) (_:Unit) (vv:Value) (W:World):Prop :=
 W.cell? ⟨mb,0,none⟩=some (.map (some bm))/\Mv W bm c (fp ps)/\∀ b,vv.ownBlock=some b->b≠mb/\b≠bm
def S0 (_:Unit) (_:Nat):Prop:=False
theorem jm_c {k:Kn} {mb bm c:Nat} {ps:List Pk} (h1:mb≠k.vb) (h2:bm≠k.vb):Jm k (Jc mb bm c ps):=by
 intro t vv vv' W W' hj kk hn
 obtain ⟨j1,j2,j3⟩:=hj
 have l1:mb < W.heap.size:=lt_of_cell j1
 have l2:=j2.lt
 have nm:∀ x,(x=mb\/x=bm)->¬ (x=k.vb\/vv.ownBlock=some x):=fun x hx h=>by
  rcases h with e|e
  ·rcases hx with e2|e2
   ·exact h1 (e2.symm.trans e)
   ·exact h2 (e2.symm.trans e)
  ·rcases hx with e2|e2
   ·exact (j3 x e).1 e2
   ·exact (j3 x e).2 e2
 refine ⟨by rw [kk.cell (p:=⟨mb,0,none⟩) l1 (nm mb (.inl rfl))];exact j1,j2.kept kk (nm bm (.inr rfl)),fun b hb=>?_⟩
 rcases hn b hb with e|e
 ·exact j3 b e
 ·exact ⟨by omega,by omega⟩
theorem knw_b (n:Nat) (F:Nat->Bool):bitB (knw n F)=decide (0<=knw n F):=by
 have:=Ta3.knw_range n F
 unfold bitB
 exact decide_eq_decide.mpr (by omega)
theorem val_of {vs:List Int} (h:∀ b∈vs,bitB b=true) (hl:vs.length<=12):valB vs 12=true:=by
 unfold valB allB
 simp
 exact ⟨h,by omega⟩
/-- Where the walk is right. -/
def FC (k:Kn) (mb bm c:Nat) (ps:List Pk) (row:List Bool):Prop:=∀ (F:Nat->Bool) (vs:List Int) (vv:Value) (W:World),Wl k (Jc mb bm c ps) () vs vv W->(∀ b∈vs,bitB b=true)->k.OL.drop vs.length=row.map (ownF k.v)->vs.length+row.length<=12 ->
 Calls Try.prog 58 #[tv (row.length:Int) (bs (tab row.length F)),ptr k.g,ptr k.vb,ptr k.gb,ptr k.wb] W (PoW k (Jc mb bm c ps) S0 W () vs vv (chk ps k.v row F vs) ())
theorem fc_nil (k:Kn) (mb bm c:Nat) (ps:List Pk) (ks:Ks k) (h1:mb≠k.vb) (h2:bm≠k.vb):FC k mb bm c ps []:=by
 intro F vs vv W hW hb hd hl
 exact iFromKnown k _ S0 ks (jm_c h1 h2) W () vs vv 0 F (by omega) _ hW (by rw [knw_b];exact decide_eq_true (knw_zero F)) rfl
theorem fc_cons {k:Kn} {mb bm c:Nat} {ps:List Pk} (ks:Ks k) (h1:mb≠k.vb) (h2:bm≠k.vb) (hg:k.give=.func (.func 36) #[] #[ptr mb]) {q:Bool} {r:List Bool} (ih:FC k mb bm c ps r):FC k mb bm c ps (q :: r):=by
 intro F vs vv W hW hv hd hl
 rw [List.length_cons] at hl ⊢
 have hS:∀ (t:Unit) vv W,Jc mb bm c ps t vv W->∀ b,S0 t b->b < W.heap.size:=fun _ _ _ _ _ h=>h.elim
 have jm:=jm_c (c:=c) (ps:=ps) h1 h2
 by_cases hk:0<=knw (r.length+1) F
 ·exact iFromKnown k _ S0 ks jm W () vs vv (r.length+1) F (by omega) _ hW (by rw [knw_b];exact decide_eq_true hk) (by unfold chk;rw [if_pos hk])
 ·have hkb:bitB (knw (r.length+1) F)=false:=by rw [knw_b];exact decide_eq_false hk
  have e:chk ps k.v (q :: r) F vs=(if (q==(k.v==0))=true then (if findP ps vs=0 then chk ps k.v r (hb r.length 0 F) (vs++[0]) else if findP ps vs=1 then chk ps k.v r (hb r.length 1 F) (vs++[1]) else false) else (chk ps k.v r (hb r.length 0 F) (vs++[0])&&chk ps k.v r (hb r.length 1 F) (vs++[1]))):=by
   conv=>lhs;unfold chk
   rw [if_neg hk]
  have hlt:vs.length < k.OL.length:=by
   have:=congrArg List.length hd
   rw [List.length_drop,List.length_map,List.length_cons] at this
   omega
  have hq:k.OL[vs.length]=(q==(k.v==0)):=by
   have:=hd
   rw [List.drop_eq_getElem_cons hlt,List.map_cons] at this
   exact (List.cons.inj this).1
  have hd':∀ b:Int,k.OL.drop (vs++[b]).length=r.map (ownF k.v):=fun b=>by
   have:=hd
   rw [List.drop_eq_getElem_cons hlt,List.map_cons] at this
   rw [List.length_append,List.length_singleton]
   exact (List.cons.inj this).2
  have hw:∀ (b:Nat),b<=1->∀ vv1 W1,Wl k (Jc mb bm c ps) () vs vv1 W1->Calls Try.prog 56 #[.int .i64 (b:Int),tv ((r.length+1:Nat):Int) (bs (tab (r.length+1) F)),ptr k.vb,ptr k.fb] W1 (PoW k (Jc mb bm c ps) S0 W1 () vs vv1 (chk ps k.v r (hb r.length b F) (vs++[(b:Int)])) ()):=fun b hb1 vv1 W1 hW1 =>
   iWith k _ S0 ks jm W1 () () vs vv1 (b:Int) _ _ _ _ _ (by omega) hW1 (fun W=>iHalf r.length b F W (by omega) hb1) (fun vv2 W2 hW2 =>
    ih (hb r.length b F) (vs++[(b:Int)]) vv2 W2 hW2 (fun x hx=>by
     rcases List.mem_append.mp hx with h|h
     ·exact hv x h
     ·rw [List.mem_singleton.mp h];exact decide_eq_true (by omega)) (hd' _) (by rw [List.length_append,List.length_singleton];omega))
  by_cases hqo:(q==(k.v==0))=true
  ·rw [e,if_pos hqo]
   have hvb:=val_of hv (by omega)
   have hf:=fp_find (ps:=ps) hvb
   refine iFromOwn k _ S0 ks jm hS W () () () vs vv (r.length+1) F (by omega) mb hg ((fp ps (sp vs)).getD 0) (fp ps (sp vs)).isSome _ hW hkb hlt (by rw [hq];exact hqo) (fun W1 hW1=>?_) (fun hth vv1 W1 hW1=>?_) (fun hth=>?_)
   ·obtain ⟨va,vc,evv,hI⟩:=hW1.vo.form
    subst evv
    refine (iGive va vs vc _ _ mb bm c (fp ps) W1 hvb hI.ints hW1.j.1 hW1.j.2.1).mono ?_
    rintro e w' ⟨he,hbw⟩
    exact ⟨he,hW1.below ks jm hbw,Kept.ofBelow hbw,fun i h=>h.elim⟩
   ·cases hfp:fp ps (sp vs) with
    | none=>rw [hfp] at hth;cases hth
    | some z =>
      rw [hfp] at hf
      show Calls _ _ #[.int .i64 z,_,_,_] _ _
      by_cases z0:z=0
      ·subst z0
       rw [if_pos (by rw [hf];rfl)]
       exact hw 0 (by omega) vv1 W1 hW1
      ·by_cases z1:z=1
       ·subst z1
        rw [if_neg (by rw [hf];decide),if_pos (by rw [hf];rfl)]
        exact hw 1 (by omega) vv1 W1 hW1
       ·have hz:bitB z=false:=decide_eq_false (by omega)
        have hf1:findP ps vs = -1:=by rw [hf];show (if bitB z=true then z else -1) = -1;rw [hz];rfl
        rw [if_neg (by rw [hf1];decide),if_neg (by rw [hf1];decide)]
        refine iWith0 k _ S0 ks jm W1 () vs vv1 z _ _ _ _ (by omega) hW1 (fun W=>iHalf0 W ?_ (fun h=>by rw [hz] at h;exact absurd h.2.2 (by decide)))
        rw [bs_size,tab_length]
        have:2 ^ (r.length+1)<=2 ^ 12:=Nat.pow_le_pow_right (by decide) (by omega)
        omega
   ·refine ⟨?_,rfl⟩
    cases hfp:fp ps (sp vs) with
    | some z=>rw [hfp] at hth;cases hth
    | none =>
      rw [hfp] at hf
      have hf1:findP ps vs = -1:=hf
      rw [if_neg (by rw [hf1];decide),if_neg (by rw [hf1];decide)]
  ·rw [e,if_neg hqo]
   exact iFromOther k _ S0 ks jm hS W () () () vs vv (r.length+1) F (by omega) _ _ _ () rfl (by simp) hW hkb hlt (by rw [hq];exact Bool.eq_false_iff.mpr hqo) (hw 0 (by omega)) (hw 1 (by omega))
theorem fc_all {k:Kn} {mb bm c:Nat} {ps:List Pk} (ks:Ks k) (h1:mb≠k.vb) (h2:bm≠k.vb) (hg:k.give=.func (.func 36) #[] #[ptr mb]):∀ row,FC k mb bm c ps row:=by
 intro row
 induction row with
 | nil=>exact fc_nil k mb bm c ps ks h1 h2
 | cons q r ih=>exact fc_cons ks h1 h2 hg ih
end Wp20
namespace Wt0
open Go.RowKit
open Op6 (Pk)
open Ta2 (bitB plc)
open Ta3 (hb)
open Td1 (knw knw_same)
open De0 (dc)
open Dp5 (chV)
open Mc0 (dc_con con_of)
open Wp9 (findP bit_in)
open Wp10 (chk knw_zero)
open Wp14 (plc_snoc fp_find)
open Wp13 (sp fp)
open Wp20 (val_of)
open Dq1 (ownF)
open Vo0 (valB)
open Wr3 (wn kn_v ch_v oth_v)
theorem find_none {ps:List Pk} {z:List Int} (h:∀ p∈ps,p.l≠z):findP ps z = -1:=by
 induction ps with
 | nil=>rfl
 | cons p r ih =>
   unfold findP
   rw [if_neg (h p (List.mem_cons_self ..))]
   exact ih fun q hq=>h q (List.mem_cons_of_mem _ hq)
theorem find_left {xs ys:List Pk} {z:List Int} (h:∀ p∈ys,p.l≠z):findP (xs++ys) z=findP xs z:=by
 induction xs with
 | nil=>exact find_none h
 | cons p r ih =>
   show findP (p :: (r++ys)) z=_
   unfold findP
   rw [ih]
theorem find_right {xs ys:List Pk} {z:List Int} (h:∀ p∈xs,p.l≠z):findP (xs++ys) z=findP ys z:=by
 induction xs with
 | nil=>rfl
 | cons p r ih =>
   show findP (p :: (r++ys)) z=_
   conv=>lhs;unfold findP
   rw [if_neg (h p (List.mem_cons_self ..))]
   exact ih fun q hq=>h q (List.mem_cons_of_mem _ hq)
theorem chk_ext (v:Int) (ps ps':List Pk) (row:List Bool):∀ (F:Nat->Bool) (vs:List Int),(∀ us,findP ps (vs++us)=findP ps' (vs++us))->chk ps v row F vs=chk ps' v row F vs:=by
 induction row with
 | nil=>exact fun F vs h=>rfl
 | cons q r ih =>
   intro F vs h
   have h0:=ih (hb r.length 0 F) (vs++[0]) (fun us=>by rw [List.append_assoc];exact h _)
   have h1:=ih (hb r.length 1 F) (vs++[1]) (fun us=>by rw [List.append_assoc];exact h _)
   have hv:=h []
   rw [List.append_nil] at hv
   unfold chk
   rw [h0,h1,hv]
theorem wn_pre (v:Int) (row:List Bool):∀ (F:Nat->Bool) (vs:List Int),∀ p∈wn v row F vs,∃ us,p.l=vs++us:=by
 induction row with
 | nil=>exact fun F vs p hp=>by cases hp
 | cons q r ih =>
   intro F vs p hp
   have hx:∀ (b:Nat) (c:Int),p∈wn v r (hb r.length b F) (vs++[c])->∃ us,p.l=vs++us:=fun b c h=>by
    obtain ⟨us,hu⟩:=ih _ _ p h
    exact ⟨c :: us,by rw [hu,List.append_assoc];rfl⟩
   unfold wn at hp
   split at hp
   ·cases hp
   ·split at hp
    ·rcases List.mem_cons.1 hp with e|e
     ·exact ⟨[],by rw [e,List.append_nil]⟩
     ·split at e
      ·exact hx 1 1 e
      ·exact hx 0 0 e
    ·rcases List.mem_append.1 hp with e|e
     ·exact hx 0 0 e
     ·exact hx 1 1 e
theorem app_ne {vs us us':List Int} {a b:Int} (h:a≠b):(vs++[a])++us≠(vs++[b])++us':=fun e=>by
 rw [List.append_assoc,List.append_assoc] at e
 have:=List.append_cancel_left e
 exact h (List.cons.inj this).1
/-- A strategy of Win checks. -/
theorem wn_chk (v:Int) (row:List Bool):∀ (F:Nat->Bool) (vs:List Int) (d:Bool),dc row F=d->v=(d.toNat:Int)->chk (wn v row F vs) v row F vs=true:=by
 induction row with
 | nil =>
   intro F vs d hd hv
   show decide (knw 0 F=v)=true
   have:=kn_v (row:=[]) (F:=F) (knw_zero F) hd
   rw [hv]
   exact decide_eq_true this
 | cons q r ih =>
   intro F vs d hd hv
   by_cases hk:0<=knw (r.length+1) F
   ·unfold chk
    rw [if_pos hk,hv]
    exact decide_eq_true (kn_v (row:=q :: r) hk hd)
   ·by_cases hown:(q==(v==0))=true
    ·obtain ⟨x,hx1,hxc,hxd⟩:=ch_v q r F
     have e:wn v (q :: r) F vs=⟨vs,(x:Int)⟩ :: wn v r (hb r.length x F) (vs++[(x:Int)]):=by
      conv=>lhs;unfold wn
      rw [if_neg hk,if_pos hown,hxc]
      have h2:x=0\/x=1:=by omega
      rcases h2 with rfl|rfl<;>rfl
     have hf:findP (wn v (q :: r) F vs) vs=(x:Int):=by
      rw [e]
      unfold findP
      rw [if_pos rfl]
      exact if_pos (bit_in.2 ⟨by show (0:Int)<=(x:Int);omega,by show (x:Int)<=1;omega⟩)
     have hrest:chk (wn v (q :: r) F vs) v r (hb r.length x F) (vs++[(x:Int)])=true:=by
      rw [chk_ext v _ (wn v r (hb r.length x F) (vs++[(x:Int)])) r _ _ (fun us=>by
       rw [e]
       refine find_right (xs:=[⟨vs,(x:Int)⟩]) fun p hp hpe=>?_
       rw [List.mem_singleton.1 hp] at hpe
       have:=congrArg List.length hpe
       simp at this)]
      exact ih _ _ d (hxd.trans hd) hv
     unfold chk
     rw [if_neg hk,if_pos hown,hf]
     have h2:x=0\/x=1:=by omega
     rcases h2 with rfl|rfl
     ·exact hrest
     ·exact hrest
    ·obtain ⟨h0,h1⟩:=oth_v hv (Bool.eq_false_iff.mpr hown) hd
     have e:wn v (q :: r) F vs=wn v r (hb r.length 0 F) (vs++[0])++wn v r (hb r.length 1 F) (vs++[1]):=by
      conv=>lhs;unfold wn
      rw [if_neg hk,if_neg hown]
     have e0:chk (wn v (q :: r) F vs) v r (hb r.length 0 F) (vs++[0])=true:=by
      rw [chk_ext v _ (wn v r (hb r.length 0 F) (vs++[0])) r _ _ (fun us=>by
       rw [e]
       refine find_left fun p hp hpe=>?_
       obtain ⟨us',hu⟩:=wn_pre v r _ _ p hp
       exact app_ne (by decide) (hu.symm.trans hpe))]
      exact ih _ _ d h0 hv
     have e1:chk (wn v (q :: r) F vs) v r (hb r.length 1 F) (vs++[1])=true:=by
      rw [chk_ext v _ (wn v r (hb r.length 1 F) (vs++[1])) r _ _ (fun us=>by
       rw [e]
       refine find_right fun p hp hpe=>?_
       obtain ⟨us',hu⟩:=wn_pre v r _ _ p hp
       exact app_ne (by decide) (hu.symm.trans hpe))]
      exact ih _ _ d h1 hv
     unfold chk
     rw [if_neg hk,if_neg hown,e0,e1]
     rfl
/-- What checks is of that verdict. -/
theorem chk_dc (ps:List Pk) (v:Int) (row:List Bool) (hv:v=0\/v=1):∀ (F:Nat->Bool) (vs:List Int),chk ps v row F vs=true->((dc row F).toNat:Int)=v:=by
 induction row with
 | nil =>
   intro F vs h
   have h1:knw 0 F=v:=of_decide_eq_true h
   rw [<- h1]
   exact (kn_v (row:=[]) (F:=F) (knw_zero F) rfl).symm
 | cons q r ih =>
   intro F vs h
   unfold chk at h
   split at h
   ·rename_i hk
    rw [<- of_decide_eq_true h]
    exact (kn_v (row:=q :: r) hk rfl).symm
   ·have e2:dc (q :: r) F=if q=true then dc r (hb r.length 0 F)&&dc r (hb r.length 1 F) else dc r (hb r.length 0 F)||dc r (hb r.length 1 F):=rfl
    have h0:=ih (hb r.length 0 F) (vs++[0])
    have h1:=ih (hb r.length 1 F) (vs++[1])
    rw [e2]
    generalize dc r (hb r.length 0 F)=d0 at *
    generalize dc r (hb r.length 1 F)=d1 at *
    split at h
    ·rename_i hown
     split at h
     ·have:=h0 h
      rcases hv with rfl|rfl<;>cases q<;>cases d0<;>cases d1<;>simp at hown this ⊢
     ·split at h
      ·have:=h1 h
       rcases hv with rfl|rfl<;>cases q<;>cases d0<;>cases d1<;>simp at hown this ⊢
      ·cases h
    ·rename_i hown
     obtain ⟨ha,hb'⟩:=Bool.and_eq_true_iff.1 h
     have t0:=h0 ha
     have t1:=h1 hb'
     rcases hv with rfl|rfl<;>cases q<;>cases d0<;>cases d1<;>simp at hown t0 t1 ⊢
/-- A game played out: what is owned by g, the others by the moves one behind the other. -/
def run (g:List Int->Int) (mv:Nat->Int):List Bool->Nat->List Int->List Int
 | [],_,vs=>vs
 | true :: r,k,vs=>run g mv r k (vs++[g vs])
 | false :: r,k,vs=>run g mv r (k+1) (vs++[mv k])
theorem plc_cons (b:Int) (us:List Int):plc (b :: us) (us.length+1)=b.toNat*2 ^ us.length+plc us us.length:=by
 obtain ⟨n,hn⟩:∃ n,n=us.length:=⟨_,rfl⟩
 induction n generalizing us with
 | zero =>
   have:=List.eq_nil_of_length_eq_zero hn.symm
   subst this
   show 2*0+([b].getD 0 0).toNat=b.toNat*1+0
   simp
 | succ n ih =>
   have hu:us≠[]:=fun e=>by rw [e] at hn;cases hn
   obtain ⟨us',y,rfl⟩:∃ l x,us=l++[x]:=⟨us.dropLast,us.getLast hu,(List.dropLast_concat_getLast hu).symm⟩
   have hl:us'.length=n:=by rw [List.length_append,List.length_singleton] at hn;omega
   have h1:=plc_snoc (b :: us') y
   have h2:=plc_snoc us' y
   have h3:=ih us' hl.symm
   rw [show (b :: (us'++[y]))=(b :: us')++[y] from rfl,show (us'++[y]).length+1=((b :: us')++[y]).length by simp,h1,h2,List.length_cons,h3,List.length_append,List.length_singleton,Nat.pow_succ,Nat.mul_add,Nat.mul_comm 2,Nat.mul_assoc]
   omega
theorem run_len (g:List Int->Int) (mv:Nat->Int) (OL:List Bool):∀ (k:Nat) (vs:List Int),∃ us,run g mv OL k vs=vs++us/\us.length=OL.length:=by
 induction OL with
 | nil=>exact fun k vs=>⟨[],by rw [List.append_nil];rfl,rfl⟩
 | cons q r ih =>
   intro k vs
   cases q with
   | true =>
     obtain ⟨us,h1,h2⟩:=ih k (vs++[g vs])
     exact ⟨g vs :: us,by show run g mv r k (vs++[g vs])=_;rw [h1,List.append_assoc];rfl,by rw [List.length_cons,List.length_cons,h2]⟩
   | false =>
     obtain ⟨us,h1,h2⟩:=ih (k+1) (vs++[mv k])
     exact ⟨mv k :: us,by show run g mv r (k+1) (vs++[mv k])=_;rw [h1,List.append_assoc];rfl,by rw [List.length_cons,List.length_cons,h2]⟩
theorem run_bits (g:List Int->Int) (mv:Nat->Int) (hmv:∀ k,bitB (mv k)=true) (N:Nat) (hg:∀ vs,(∀ b∈vs,bitB b=true)->vs.length<=N->bitB (g vs)=true) (OL:List Bool):∀ (k:Nat) (vs:List Int),(∀ b∈vs,bitB b=true)->vs.length+OL.length<=N->∃ us,run g mv OL k vs=vs++us/\us.length=OL.length/\∀ b∈us,bitB b=true:=by
 induction OL with
 | nil=>exact fun k vs _ _=>⟨[],by rw [List.append_nil];rfl,rfl,fun b hb=>by cases hb⟩
 | cons q r ih =>
   intro k vs hv hl
   rw [List.length_cons] at hl
   have go:∀ (x:Int) (k':Nat),bitB x=true->∃ us,run g mv r k' (vs++[x])=vs++us/\us.length=r.length+1/\∀ b∈us,bitB b=true:=fun x k' hx=>by
    obtain ⟨us,h1,h2,h3⟩:=ih k' (vs++[x]) (fun b hb=>by
     rcases List.mem_append.1 hb with e|e
     ·exact hv b e
     ·rw [List.mem_singleton.1 e];exact hx) (by rw [List.length_append,List.length_singleton];omega)
    refine ⟨x :: us,by rw [h1,List.append_assoc];rfl,by rw [List.length_cons,h2],fun b hb=>?_⟩
    rcases List.mem_cons.1 hb with e|e
    ·rw [e];exact hx
    ·exact h3 b e
   cases q with
   | true=>exact go (g vs) k (hg vs hv (by omega))
   | false=>exact go (mv k) (k+1) (hmv k)
theorem bits_at {us:List Int} (h:∀ b∈us,bitB b=true):∀ i,i < us.length->bitB (us.getD i 0)=true:=fun i hi=>by
 have e:us.getD i 0=us[i]:=by simp [List.getD,hi]
 rw [e]
 exact h _ (List.getElem_mem hi)
/-- Where a list checks, a game played by it ends at v. -/
theorem run_ok (ps:List Pk) (v:Int) (g:List Int->Int) (mv:Nat->Int) (hmv:∀ k,bitB (mv k)=true)
 (hg:∀ vs,(∀ b∈vs,bitB b=true)->vs.length<=12->bitB (g vs)=true/\(findP ps vs=0->g vs=0)/\(findP ps vs=1->g vs=1)) (row:List Bool) :
 ∀ (F:Nat->Bool) (k:Nat) (vs:List Int),chk ps v row F vs=true->(∀ b∈vs,bitB b=true)->vs.length+row.length<=12->∃ us,run g mv (row.map (ownF v)) k vs=vs++us/\us.length=row.length/\(∀ b∈us,bitB b=true)/\((F (plc us us.length)).toNat:Int)=v:=by
 induction row with
 | nil =>
   intro F k vs h _ _
   refine ⟨[],by rw [List.append_nil];rfl,rfl,fun b hb=>(by cases hb),?_⟩
   have h1:knw 0 F=v:=of_decide_eq_true h
   rw [<- h1,knw_same (fun j hj=>by have:j=0:=(by simpa using hj);rw [this])]
   rfl
 | cons q r ih =>
   intro F k vs h hv hl
   rw [List.length_cons] at hl
   by_cases hk:0<=knw (r.length+1) F
   ·obtain ⟨us,h1,h2,h3⟩:=run_bits g mv hmv 12 (fun vs a b=>(hg vs a b).1) ((q :: r).map (ownF v)) k vs hv (by rw [List.length_map,List.length_cons];omega)
    refine ⟨us,h1,by rw [h2,List.length_map],h3,?_⟩
    unfold chk at h
    rw [if_pos hk] at h
    have h4:knw (r.length+1) F=v:=of_decide_eq_true h
    have hc:=con_of hk
    rw [knw_same hc] at h4
    have hlt:=Ta2.plc_lt (l:=us) (k:=us.length) (bits_at h3)
    rw [hc _ (by rw [h2,List.length_map,List.length_cons] at hlt;rw [h2,List.length_map,List.length_cons];exact hlt)]
    exact h4
   ·have step:∀ (x:Nat) (k':Nat),x<=1->chk ps v r (hb r.length x F) (vs++[(x:Int)])=true->∃ us,run g mv (r.map (ownF v)) k' (vs++[(x:Int)])=vs++us/\us.length=r.length+1/\(∀ b∈us,bitB b=true)/\((F (plc us us.length)).toNat:Int)=v:=fun x k' hx hc=>by
     have hxb:bitB (x:Int)=true:=bit_in.2 ⟨by omega,by omega⟩
     obtain ⟨us,h1,h2,h3,h4⟩:=ih (hb r.length x F) k' (vs++[(x:Int)]) hc (fun b hb=>by
      rcases List.mem_append.1 hb with e|e
      ·exact hv b e
      ·rw [List.mem_singleton.1 e];exact hxb) (by rw [List.length_append,List.length_singleton];omega)
     refine ⟨(x:Int) :: us,by rw [h1,List.append_assoc];rfl,by rw [List.length_cons,h2],fun b hb=>?_,?_⟩
     ·rcases List.mem_cons.1 hb with e|e
      ·rw [e];exact hxb
      ·exact h3 b e
     ·rw [List.length_cons,plc_cons,h2]
      rw [h2] at h4
      exact h4
    unfold chk at h
    rw [if_neg hk] at h
    by_cases hown:(q==(v==0))=true
    ·rw [if_pos hown] at h
     have hr:run g mv ((q :: r).map (ownF v)) k vs=run g mv (r.map (ownF v)) k (vs++[g vs]):=by
      rw [List.map_cons,show ownF v q=true from hown]
      rfl
     rw [hr]
     obtain ⟨_,g0,g1⟩:=hg vs hv (by omega)
     by_cases f0:findP ps vs=0
     ·rw [if_pos f0] at h
      rw [g0 f0]
      exact step 0 k (by omega) h
     ·rw [if_neg f0] at h
      by_cases f1:findP ps vs=1
      ·rw [if_pos f1] at h
       rw [g1 f1]
       exact step 1 k (by omega) h
      ·rw [if_neg f1] at h
       cases h
    ·rw [if_neg hown] at h
     obtain ⟨ha,hb'⟩:=Bool.and_eq_true_iff.1 h
     have hr:run g mv ((q :: r).map (ownF v)) k vs=run g mv (r.map (ownF v)) (k+1) (vs++[mv k]):=by
      rw [List.map_cons,show ownF v q=false from Bool.eq_false_iff.mpr hown]
      rfl
     rw [hr]
     have hm:=bit_in.1 (hmv k)
     have hm2:mv k=0\/mv k=1:=by omega
     rcases hm2 with e|e
     ·rw [e]
      exact step 0 (k+1) (by omega) ha
     ·rw [e]
      exact step 1 (k+1) (by omega) hb'
theorem wn_bits (v:Int) (row:List Bool):∀ (F:Nat->Bool) (vs:List Int),∀ p∈wn v row F vs,bitB p.v=true:=by
 induction row with
 | nil=>exact fun F vs p hp=>by cases hp
 | cons q r ih =>
   intro F vs p hp
   unfold wn at hp
   split at hp
   ·cases hp
   ·split at hp
    ·rcases List.mem_cons.1 hp with e|e
     ·obtain ⟨x,hx1,hxc,_⟩:=ch_v q r F
      rw [e]
      show bitB (chV (q :: r) (r.length+1) F)=true
      rw [hxc]
      exact bit_in.2 ⟨by omega,by omega⟩
     ·split at e
      ·exact ih _ _ p e
      ·exact ih _ _ p e
    ·rcases List.mem_append.1 hp with e|e
     ·exact ih _ _ p e
     ·exact ih _ _ p e
theorem fp_mem {ps:List Pk} {x:Mv0.Sp} {z:Int} (h:fp ps x=some z):∃ p∈ps,p.v=z:=by
 induction ps with
 | nil=>cases h
 | cons p r ih =>
   unfold fp at h
   split at h
   ·exact ⟨p,List.mem_cons_self ..,Option.some.inj h⟩
   ·obtain ⟨q,hq,e⟩:=ih h
    exact ⟨q,List.mem_cons_of_mem _ hq,e⟩
/-- What a list of bits gives, as the program looks it up. -/
def gP (ps:List Pk) (vs:List Int):Int:=(fp ps (sp vs)).getD 0
theorem gP_bit {ps:List Pk} (h:∀ p∈ps,bitB p.v=true) (vs:List Int):bitB (gP ps vs)=true:=by
 unfold gP
 cases hf:fp ps (sp vs) with
 | none=>rfl
 | some z =>
   obtain ⟨p,hp,e⟩:=fp_mem hf
   rw [<- e]
   exact h p hp
theorem gP_ok {ps:List Pk} (h:∀ p∈ps,bitB p.v=true) (vs:List Int) (hv:∀ b∈vs,bitB b=true) (hl:vs.length<=12):bitB (gP ps vs)=true/\(findP ps vs=0->gP ps vs=0)/\(findP ps vs=1->gP ps vs=1):=by
 refine ⟨gP_bit h vs,?_⟩
 have hf:=fp_find (ps:=ps) (val_of hv hl)
 unfold gP
 cases he:fp ps (sp vs) with
 | none =>
   rw [he] at hf
   exact ⟨fun e=>(by rw [hf] at e;cases e),fun e=>(by rw [hf] at e;cases e)⟩
 | some z =>
   rw [he] at hf
   obtain ⟨p,hp,e⟩:=fp_mem he
   have hz:bitB z=true:=by rw [<- e];exact h p hp
   have hf2:findP ps vs=z:=hf.trans (if_pos hz)
   exact ⟨fun e=>(by rw [<- hf2];exact e),fun e=>(by rw [<- hf2];exact e)⟩
/-- Any game played by what Win gives ends at the verdict. -/
theorem win_plays {row:List Bool} {F:Nat->Bool} {d:Bool} (hd:dc row F=d) (hn:row.length<=12) (mv:Nat->Int) (hmv:∀ k,bitB (mv k)=true):Ta2.atB row.length F (run (gP (wn (d.toNat:Int) row F [])) mv (row.map (ownF (d.toNat:Int))) 0 [])=(d.toNat:Int):=by
 obtain ⟨us,h1,h2,h3,h4⟩:=run_ok (wn (d.toNat:Int) row F []) (d.toNat:Int) (gP (wn (d.toNat:Int) row F [])) mv hmv (fun vs hv hl=>gP_ok (wn_bits _ row F []) vs hv hl) row F 0 [] (wn_chk _ row F [] d hd rfl) (fun b hb=>by cases hb) (by simpa using hn)
 rw [h1,List.nil_append,Ta2.at_good h2 (bits_at h3)]
 exact h4
end Wt0
namespace Wp21
open Go.RowKit
open Nd0 (Kept Ints WInts lt_of_cell)
open Nd6 (Bools)
open Op6 (Pk PkAt Pks)
open Ta1 (tab tab_length)
open Ta2 (bitB)
open Tc2 (tv ret_bool)
open Ss0 (bs bs_size)
open Mv0 (Mv Sp Sm)
open Dq1 (ownF ownL ownL_yes)
open Wp10 (chk)
open Wp13 (sp fp)
open Ap0 Wp12 Wp15 Wp16 Wp17 Wp18 Wp19 Wp20
def kc (n:Nat) (N:Int) (S:ByteArray) (v:Int) (a:Option Addr) (o:Nat) (OL:List Bool) (gi:Value):Kn:=⟨n,n+1+1+1,n+1,n+1+1+1+1,n+1+1+1+1+1,n+1+1,N,S,v,a,o,OL,gi⟩
theorem ks_c (w:World) (N:Int) (S:ByteArray) (v:Int) (a:Option Addr) (o:Nat) (OL:List Bool) (gi:Value) (hB:Bools w a OL):Ks (kc w.heap.size N S v a o OL gi):=by
 refine ⟨?_,?_,?_,?_,?_,?_,?_⟩
 ·show w.heap.size < w.heap.size+1+1;omega
 ·show w.heap.size+1 < w.heap.size+1+1;omega
 ·show w.heap.size≠w.heap.size+1+1+1;omega
 ·show w.heap.size+1≠w.heap.size+1+1+1;omega
 ·show w.heap.size+1+1+1+1≠w.heap.size+1+1+1;omega
 ·show w.heap.size+1+1+1+1+1≠w.heap.size+1+1+1;omega
 ·intro x hx hl
  rcases hB.2 with e|⟨b,i,e,hc⟩
  ·have:0 < OL.length:=hl
   omega
  ·have hx':a=some x:=hx
   rw [e] at hx'
   cases hx'
   have:=lt_of_cell (hc 0 hl)
   show b < w.heap.size+1+1/\b≠w.heap.size+1+1+1
   have h2:b < w.heap.size:=this
   exact ⟨by omega,by omega⟩
theorem wl_c (w:World) (N:Int) (S:ByteArray) (v:Int) (a:Option Addr) (o:Nat) (OL:List Bool) (gi:Value) (mb bm c:Nat) (ps:List Pk) (hB:Bools w a OL) (hm:w.cell? ⟨mb,0,none⟩=some (.map (some bm))) (hM:Mv w bm c (fp ps)) (T0 T1 T3 T4 T5:Nat) :
 ∀ X,X=((((((w.alloc (.cells #[.int .i64 N,.string S,.int .i64 v,.slice a OL.length o] T0)).alloc (.cells #[gi] T1)).alloc (.cells #[] 3)).alloc (.cells #[.slice (some ⟨w.heap.size+1+1,0,none⟩) 0 0] T3)).alloc (.cells #[(kc w.heap.size N S v a o OL gi).from_] T4)).alloc (.cells #[(kc w.heap.size N S v a o OL gi).with_] T5))->Wl (kc w.heap.size N S v a o OL gi) (Jc mb bm c ps) () [] (.slice (some ⟨w.heap.size+1+1,0,none⟩) 0 0) X/\Below w.heap.size w X:=by
 intro X hX
 rw [hX]
 clear hX X
 obtain ⟨fr,hfr⟩:∃ x,x=(kc w.heap.size N S v a o OL gi).from_:=⟨_,rfl⟩
 obtain ⟨wi,hwi⟩:∃ x,x=(kc w.heap.size N S v a o OL gi).with_:=⟨_,rfl⟩
 rw [<- hfr,<- hwi]
 obtain ⟨X1,h1⟩:∃ X,X=w.alloc (.cells #[.int .i64 N,.string S,.int .i64 v,.slice a OL.length o] T0):=⟨_,rfl⟩
 have z1:X1.heap.size=w.heap.size+1:=by rw [h1];simp
 have g1:G4 X1 w.heap.size (.int .i64 N) (.string S) (.int .i64 v) (.slice a OL.length o):=by rw [h1];exact G4.made _ _ _ _ _ _
 have b1:Below w.heap.size w X1:=by rw [h1];exact (Below.refl _ _).alloc (Nat.le_refl _) _
 rw [<- h1]
 obtain ⟨X2,h2⟩:∃ X,X=X1.alloc (.cells #[gi] T1):=⟨_,rfl⟩
 have z2:X2.heap.size=w.heap.size+1+1:=by rw [h2,<- z1];simp
 have c2:X2.cell? ⟨w.heap.size+1,0,none⟩=some gi:=by rw [h2,<- z1];simp
 have b2:Below X1.heap.size X1 X2:=by rw [h2];exact (Below.refl _ _).alloc (Nat.le_refl _) _
 rw [<- h2]
 obtain ⟨X3,h3⟩:∃ X,X=X2.alloc (.cells #[] 3):=⟨_,rfl⟩
 have z3:X3.heap.size=w.heap.size+1+1+1:=by rw [h3,<- z2];simp
 have o3:Ows X3 (w.heap.size+1+1) (.slice (some ⟨w.heap.size+1+1,0,none⟩) 0 0) []:=by rw [h3,<- z2];exact Ows.lit X2 _ (Nat.le_refl _)
 have b3:Below X2.heap.size X2 X3:=by rw [h3];exact (Below.refl _ _).alloc (Nat.le_refl _) _
 rw [<- h3]
 obtain ⟨X4,h4⟩:∃ X,X=X3.alloc (.cells #[.slice (some ⟨w.heap.size+1+1,0,none⟩) 0 0] T3):=⟨_,rfl⟩
 have z4:X4.heap.size=w.heap.size+1+1+1+1:=by rw [h4,<- z3];simp
 have c4:X4.cell? ⟨w.heap.size+1+1+1,0,none⟩=some (.slice (some ⟨w.heap.size+1+1,0,none⟩) 0 0):=by rw [h4,<- z3];simp
 have f4:X4.frozen? ⟨w.heap.size+1+1+1,0,none⟩=false:=by rw [h4,<- z3];simp
 have b4:Below X3.heap.size X3 X4:=by rw [h4];exact (Below.refl _ _).alloc (Nat.le_refl _) _
 rw [<- h4]
 obtain ⟨X5,h5⟩:∃ X,X=X4.alloc (.cells #[fr] T4):=⟨_,rfl⟩
 have z5:X5.heap.size=w.heap.size+1+1+1+1+1:=by rw [h5,<- z4];simp
 have c5:X5.cell? ⟨w.heap.size+1+1+1+1,0,none⟩=some fr:=by rw [h5,<- z4];simp
 have b5:Below X4.heap.size X4 X5:=by rw [h5];exact (Below.refl _ _).alloc (Nat.le_refl _) _
 rw [<- h5]
 obtain ⟨X6,h6⟩:∃ X,X=X5.alloc (.cells #[wi] T5):=⟨_,rfl⟩
 have c6:X6.cell? ⟨w.heap.size+1+1+1+1+1,0,none⟩=some wi:=by rw [h6,<- z5];simp
 have b6:Below X5.heap.size X5 X6:=by rw [h6];exact (Below.refl _ _).alloc (Nat.le_refl _) _
 rw [<- h6]
 have a5:Below X4.heap.size X4 X6:=b5.trans (b6.mono b5.size)
 have a4:Below X3.heap.size X3 X6:=b4.trans (a5.mono b4.size)
 have a3:Below X2.heap.size X2 X6:=b3.trans (a4.mono b3.size)
 have a2:Below X1.heap.size X1 X6:=b2.trans (a3.mono b2.size)
 have a1:Below w.heap.size w X6:=b1.trans (a2.mono b1.size)
 have zz:=a5.size
 refine ⟨⟨g1.below a2,hB.below a1,?_,?_,?_,?_,?_,?_,?_,?_,?_⟩,a1⟩
 ·exact (a5.cell (p:=⟨w.heap.size+1+1+1,0,none⟩) (lt_of_cell c4)).trans c4
 ·exact (a5.frozen (p:=⟨w.heap.size+1+1+1,0,none⟩) (lt_of_cell c4)).trans f4
 ·exact o3.kept (S:=fun _=>False) (Kept.ofBelow a4) (fun _ _ h=>h)
 ·exact (a3.cell (p:=⟨w.heap.size+1,0,none⟩) (lt_of_cell c2)).trans c2
 ·rw [<- hfr];exact (b6.cell (p:=⟨w.heap.size+1+1+1+1,0,none⟩) (lt_of_cell c5)).trans c5
 ·rw [<- hwi];exact c6
 ·refine ⟨(a1.cell (p:=⟨mb,0,none⟩) (lt_of_cell hm)).trans hm,hM.below a1,fun b hb=>?_⟩
  have hb':w.heap.size+1+1=b:=by simpa [Value.ownBlock] using hb
  have l1:mb < w.heap.size:=lt_of_cell hm
  have l2:=hM.lt
  exact ⟨by omega,by omega⟩
 ·show w.heap.size+1+1<=X6.heap.size
  omega
 ·intro b hb
  have hb':w.heap.size+1+1=b:=by simpa [Value.ownBlock] using hb
  show b≠w.heap.size+1+1+1/\b≠w.heap.size+1+1+1+1/\b≠w.heap.size+1+1+1+1+1
  exact ⟨by omega,by omega,by omega⟩
theorem at_c (F:Nat->Bool) (v:Int) (row:List Bool) (ps:List Pk) (a:Option Addr) (o c mb bm:Nat) (w:World) (r:Bool) (hr:r=chk ps v row F []) (hn:row.length<=12) (hv:bitB v=true) (hB:Bools w a (ownL v row)) (hmm:w.cell? ⟨mb,0,none⟩=some (.map (some bm))) (hM:Mv w bm c (fp ps)) (T0 T1 T3 T4 T5:Nat) :
 Calls Try.prog 58 #[tv (row.length:Int) (bs (tab row.length F)),ptr w.heap.size,ptr (w.heap.size+1+1+1),ptr (w.heap.size+1),ptr (w.heap.size+1+1+1+1+1)] ((((((w.alloc (.cells #[.int .i64 (row.length:Int),.string (bs (tab row.length F)),.int .i64 v,.slice a (ownL v row).length o] T0)).alloc (.cells #[(.func (.func 36) #[] #[ptr mb])] T1)).alloc (.cells #[] 3)).alloc (.cells #[.slice (some ⟨w.heap.size+1+1,0,none⟩) 0 0] T3)).alloc (.cells #[(.func (.func 58) #[] #[ptr w.heap.size,ptr (w.heap.size+1+1+1),ptr (w.heap.size+1),ptr (w.heap.size+1+1+1+1+1)])] T4)).alloc (.cells #[(.func (.func 56) #[] #[ptr (w.heap.size+1+1+1),ptr (w.heap.size+1+1+1+1)])] T5)) fun e w'=>e=.returned (.bool r)/\Below w.heap.size w w':=by
 have H:=wl_c w (row.length:Int) (bs (tab row.length F)) v a o (ownL v row) (.func (.func 36) #[] #[ptr mb]) mb bm c ps hB hmm hM T0 T1 T3 T4 T5 ((((((w.alloc (.cells #[.int .i64 (row.length:Int),.string (bs (tab row.length F)),.int .i64 v,.slice a (ownL v row).length o] T0)).alloc (.cells #[(.func (.func 36) #[] #[ptr mb])] T1)).alloc (.cells #[] 3)).alloc (.cells #[.slice (some ⟨w.heap.size+1+1,0,none⟩) 0 0] T3)).alloc (.cells #[(.func (.func 58) #[] #[ptr w.heap.size,ptr (w.heap.size+1+1+1),ptr (w.heap.size+1),ptr (w.heap.size+1+1+1+1+1)])] T4)).alloc (.cells #[(.func (.func 56) #[] #[ptr (w.heap.size+1+1+1),ptr (w.heap.size+1+1+1+1)])] T5)) rfl
 have hl1:mb < w.heap.size:=lt_of_cell hmm
 have hl2:=hM.lt
 have h:=fc_all (k:=kc w.heap.size (row.length:Int) (bs (tab row.length F)) v a o (ownL v row) (.func (.func 36) #[] #[ptr mb])) (mb:=mb) (bm:=bm) (c:=c) (ps:=ps) (ks_c w _ _ v a o _ _ hB) (by show mb≠w.heap.size+1+1+1;omega) (by show bm≠w.heap.size+1+1+1;omega) rfl row F [] _ _ H.1 (fun _ h=>by cases h) (by show (ownL v row).drop 0=_;rw [List.drop_zero];exact ownL_yes hv) (by simpa using hn)
 refine h.mono ?_
 rintro e w' ⟨he,vv',_,hK,_,_⟩
 refine ⟨by rw [he,hr];rfl,H.2.trans (hK.below (B:=w.heap.size) (fun i hi=>?_) H.2.size)⟩
 rcases hi with e|e|e
 ·have e':i=w.heap.size+1+1+1:=e
  omega
 ·have e':w.heap.size+1+1=i:=by simpa [Value.ownBlock] using e
  omega
 ·exact e.elim
theorem iWalk (F:Nat->Bool) (v:Int) (row:List Bool) (ps:List Pk) (a:Option Addr) (o c mb bm:Nat) (w:World) (hn:row.length<=12) (hv:bitB v=true) (hB:Bools w a (ownL v row)) (hm:w.cell? ⟨mb,0,none⟩=some (.map (some bm))) (hM:Mv w bm c (fp ps)) :
 Calls Try.prog 29 #[gv (row.length:Int) (bs (tab row.length F)) v a (ownL v row).length o,.func (.func 36) #[] #[ptr mb]] w fun e w'=>e=.returned (.bool (chk ps v row F []))/\Below w.heap.size w w':=by
 have HV:Hid (bitB v=true/\Bools w a (ownL v row)/\w.cell? ⟨mb,0,none⟩=some (.map (some bm))/\Mv w bm c (fp ps)/\row.length<=12):=⟨hv,hB,hm,hM,hn⟩
 clear hv hB hm hM hn
 obtain ⟨r,hr⟩:∃ r,r=chk ps v row F []:=⟨_,rfl⟩
 have HR:Hid (r=chk ps v row F []):=hr
 rw [<- hr]
 clear hr
 obtain ⟨m,hm⟩:∃ m,m=(ownL v row).length:=⟨_,rfl⟩
 have HM:Hid (m=(ownL v row).length):=hm
 rw [<- hm]
 clear hm
 obtain ⟨S,hS⟩:∃ S,S=bs (tab row.length F):=⟨_,rfl⟩
 have HS:Hid (S=bs (tab row.length F)):=hS
 rw [<- hS]
 clear hS
 go_enter Try.func29,Try.ntmps29
 go_upto_region 5 with fail
 go_wp2_with fail
 have hm:=HM.out
 have hs:=HS.out
 subst hm hs
 obtain ⟨hv,hB,hmm,hM,hn⟩:=HV.out
 refine Calls.mono (R:=fun e w'=>e=.returned (.bool r)/\Below w.heap.size w w') ?_ ?_
 ·exact at_c F v row ps a o c mb bm w r HR.out hn hv hB hmm hM _ _ _ _ _
 ·rintro e w' ⟨rfl,hb⟩
  have HB:Hid (Below w.heap.size w w'):=hb
  clear hb
  go_wp2_with fail
  go_ret
  exact ⟨rfl,HB.out⟩
end Wp21
namespace Wp22
open Go.RowKit
open Nd0 (Kept Ints WInts lt_of_cell)
open Nd6 (Bools)
open Op6 (Pk PkAt Pks)
open Ta1 (tab tab_length)
open Ta2 (bitB)
open Tc2 (tv ret_bool)
open Tc5 (Lay)
open Ss0 (bs bs_size)
open Mv0 (Mv Sp Sm)
open Dq1 (ownF ownL ownL_yes)
open Wp10 (chk)
open Wp13 (sp fp iFirst)
open Ap0 Wp7 Wp12 Wp15 Wp21
theorem iChecks (row:List Bool) (F:Nat->Bool) (v:Int) (ps:List Pk) (ra la:Option Addr) (c lc:Nat) (w:World) (hn:row.length<=12) (hB:Bools w ra row) (hv:bitB v=true) (hl:ps.length<=5000) (hP:Pks w la ps) (hw:∀ p∈ps,(Lit.int .i64 p.v).wf=true) :
 Calls Try.prog 9 #[.slice ra row.length c,tv (row.length:Int) (bs (tab row.length F)),.int .i64 v,.slice la ps.length lc] w fun e w'=>e=.returned (.bool (chk ps v row F []))/\Below w.heap.size w w':=by
 obtain ⟨X0,hX0⟩:∃ X,X=w.alloc (.cells #[.int .i64 (row.length:Int),.string (bs (tab row.length F))] 26):=⟨_,rfl⟩
 have b0:Below w.heap.size w X0:=by rw [hX0];exact (Below.refl _ _).alloc (Nat.le_refl _) _
 have HB0:Hid (Below w.heap.size w X0):=b0
 have HL0:Hid (Lay X0 w.heap.size (.int .i64 (row.length:Int)) (.string (bs (tab row.length F)))):=by rw [hX0];exact Lay.made _ _ _ _
 have hE:w.alloc (.cells #[.int .i64 (row.length:Int),.string (bs (tab row.length F))] 26)=X0:=hX0.symm
 have HGA:Hid _:=iGame row.length F v row ra c X0 hn rfl (hB.below b0) hv
 have HFI:Hid (∀ W,Below w.heap.size w W->Calls Try.prog 35 #[.slice la ps.length lc] W fun e w'=>(∃ bm,e=.returned (.map (some bm))/\W.heap.size<=bm/\∃ k,Mv w' bm k (fp ps))/\Below W.heap.size W w'):=fun W hb=>iFirst W la ps lc (pks_below hP hb) (by omega) hw
 obtain ⟨r,hr⟩:∃ r,r=chk ps v row F []:=⟨_,rfl⟩
 rw [<- hr]
 have HWK:Hid (∀ a o cc mb bm W,Bools W a (ownL v row)->W.cell? ⟨mb,0,none⟩=some (.map (some bm))->Mv W bm cc (fp ps)->Calls Try.prog 29 #[gv (row.length:Int) (bs (tab row.length F)) v a (ownL v row).length o,.func (.func 36) #[] #[ptr mb]] W fun e w'=>e=.returned (.bool r)/\Below W.heap.size W w'):=fun a o cc mb bm W h1 h2 h3=>by
  rw [hr]
  exact iWalk F v row ps a o cc mb bm W hn hv h1 h2 h3
 have hlz:¬ (5000:Int) < (ps.length:Int):=by omega
 clear hX0 b0 hn hB hv hl hP hw hr
 generalize ownL v row=OL at *
 generalize bs (tab row.length F)=S at *
 go_enter Try.func9,Try.ntmps9
 go_upto_region 1 with fail
 clear hE
 obtain ⟨d0,d1,_,_⟩:=HL0.out
 have hd:=HL0.out.lt
 go_wp2_with fail
 clear d0 d1 hd
 refine Calls.mono HGA.out ?_
 rintro e w1 ⟨⟨ga,go,rfl,hb1'⟩,hb1⟩
 have HB1:Hid (Below w.heap.size w w1):=HB0.out.trans (hb1.mono HB0.out.size)
 have HO1:Hid (Bools w1 ga OL):=hb1'
 clear hb1 hb1' HB0 HL0 HGA
 go_upto_region 2 with fail
 obtain ⟨W2,hW2⟩:∃ X,X=w1.alloc (.cells #[.int .i64 (row.length:Int),.string S,.int .i64 v,.slice ga OL.length go] 55):=⟨_,rfl⟩
 obtain ⟨g,hg⟩:∃ g,g=w1.heap.size:=⟨_,rfl⟩
 have hb2:Below w1.heap.size w1 W2:=by rw [hW2];exact (Below.refl _ _).alloc (Nat.le_refl _) _
 have HB2:Hid (Below w.heap.size w W2):=HB1.out.trans (hb2.mono HB1.out.size)
 have HG2:Hid (G4 W2 g (.int .i64 (row.length:Int)) (.string S) (.int .i64 v) (.slice ga OL.length go)):=by rw [hW2,hg];exact G4.made _ _ _ _ _ _
 have HO2:Hid (Bools W2 ga OL):=HO1.out.below hb2
 rw [<- hW2,<- hg]
 clear hW2 hg hb2 HB1 HO1
 go_upto_region 4 with fail
 go_wp2_with fail
 refine (HFI.out _ HB2.out).mono ?_
 rintro e w3 ⟨⟨bm,rfl,hbm,kk,hM⟩,hb3⟩
 have HB3:Hid (Below w.heap.size w w3):=HB2.out.trans (hb3.mono HB2.out.size)
 have HG3:Hid (G4 w3 g (.int .i64 (row.length:Int)) (.string S) (.int .i64 v) (.slice ga OL.length go)):=HG2.out.below hb3
 have HO3:Hid (Bools w3 ga OL):=HO2.out.below hb3
 have HM3:Hid (Mv w3 bm kk (fp ps)):=hM
 clear hb3 hM hbm HB2 HG2 HO2
 go_upto_region 5 with fail
 have hmade:∀ T:Nat,(w3.alloc (.cells #[.map (some bm)] T)).cell? ⟨w3.heap.size,0,none⟩=some (.map (some bm))/\Below w3.heap.size w3 (w3.alloc (.cells #[.map (some bm)] T)):=fun T=>⟨by simp,(Below.refl _ _).alloc (Nat.le_refl _) _⟩
 generalize hW4:World.alloc w3 _=W4
 generalize hq:w3.heap.size=q at *
 have hc4:W4.cell? ⟨q,0,none⟩=some (.map (some bm)):=by rw [<- hW4];exact (hmade _).1
 have hb4:Below w3.heap.size w3 W4:=by rw [hq,<- hW4];exact (hmade _).2
 have HB4:Hid (Below w.heap.size w W4):=HB3.out.trans (hb4.mono HB3.out.size)
 have HG4:Hid (G4 W4 g (.int .i64 (row.length:Int)) (.string S) (.int .i64 v) (.slice ga OL.length go)):=HG3.out.below hb4
 have HC4:Hid (W4.cell? ⟨q,0,none⟩=some (.map (some bm))):=hc4
 have HK4:Hid (Calls Try.prog 29 #[gv (row.length:Int) S v ga OL.length go,.func (.func 36) #[] #[ptr q]] W4 fun e w'=>e=.returned (.bool r)/\Below W4.heap.size W4 w'):=HWK.out _ _ _ _ _ _ (HO3.out.below hb4) HC4.out (HM3.out.below hb4)
 clear hmade hW4 hq hc4 hb4 HB3 HG3 HO3 HM3
 obtain ⟨d0,d1,d2,d3,_,_,_,_⟩:=HG4.out
 have hd:=HG4.out.lt
 go_wp2_with fail
 clear d0 d1 d2 d3 hd
 refine Calls.mono HK4.out ?_
 rintro e w5 ⟨rfl,hb5⟩
 have HB5:Hid (Below w.heap.size w w5):=HB4.out.trans (hb5.mono HB4.out.size)
 clear hb5
 go_wp2_with fail
 go_ret
 exact ⟨rfl,HB5.out⟩
end Wp22
namespace Wt1
open Go.RowKit
open Nd0 (Kept Ints WInts lt_of_cell set_same set_other)
open Nd6 (Bools)
open Op6 (Pk PkAt Pks)
open Ta1 (tab)
open Ta2 (bitB plc atB)
open Tc2 (tv)
open Tc5 (Lay)
open Ss0 (bs)
open Mv0 (Mv Sp Sm law zeroInt key_eq)
open Dq1 (ownF ownL ownL_yes)
open Dp1 (iOne1)
open Wp13 (sp fp iFirst sp_small val_bits)
open Wp20 (val_of)
open Te3 (iTableAt)
open Ap0 Wp7 Wp12 Wp15 Wt0
set_option linter.unusedSimpArgs false
theorem mv_get {w:World} {bm c:Nat} {f:Sp->Option Int} (h:Mv w bm c f) {x:Sp} (hx:Sm x) :
 (Instr.lookup 65 (.map (some bm)) (Mv0.agg x) false).run Try.prog w=.ok (.int .i64 ((f x).getD 0)) w:=by
 obtain ⟨D,ho,hp⟩:=h
 obtain ⟨h1,h2⟩:=hp x hx
 obtain ⟨es,clock,hb,F,hs,hD⟩:=ho
 subst hD
 rcases Maps.fit_look false law Try.underlying65 (zeroInt w) hb F (key_eq hx) with ⟨hrun,_,hat⟩|⟨e0,y,_,_,hrun,hRv,hat,_⟩
 ·rw [Maps.has_false_of_atKey hat] at h1
  cases hf:f x with
  | none=>exact hrun
  | some u=>rw [hf] at h1;cases h1
 ·rw [Maps.has_true_of_atKey hat] at h1
  cases hf:f x with
  | none=>rw [hf] at h1;cases h1
  | some u =>
    have h3:=h2 u (.lit (.int .i64 0)) hf
    rw [hat] at h3
    obtain ⟨a,ha,hz,_⟩:=plainElem_int_inv Try.underlying3 hRv
    rw [ha] at hrun
    rw [hrun]
    rw [hz] at h3
    cases h3
    rfl
/-- The k-th move, as a bit. -/
def mvB (ml:List Int) (k:Nat):Int:=if k < ml.length/\ml.getD k 0≠0 then 1 else 0
theorem mvB_bit (ml:List Int) (k:Nat):bitB (mvB ml k)=true:=by unfold mvB;split<;>rfl
theorem iMove (nb mb:Nat) (ma:Option Addr) (ml:List Int) (mc k:Nat) (W:World) (hn:W.cell? ⟨nb,0,none⟩=some (.int .i64 (k:Int))) (hf:W.frozen? ⟨nb,0,none⟩=false) (hm:W.cell? ⟨mb,0,none⟩=some (.slice ma ml.length mc)) (hI:Ints W ma ml) (hk:k<=1000) (hne:mb≠nb) (hna:∀ x,ma=some x->0 < ml.length->x.block≠nb) :
 Calls Try.prog 66 #[ptr nb,ptr mb] W fun e w'=>e=.returned (.int .i64 (mvB ml k))/\w'.cell? ⟨nb,0,none⟩=some (.int .i64 ((k+1:Nat):Int))/\w'.frozen? ⟨nb,0,none⟩=false/\Kept (fun b=>b=nb) W w':=by
 obtain ⟨Y,hY⟩:∃ Y,Y=W.setCell ⟨nb,0,none⟩ (.int .i64 ((k:Int)+1)):=⟨_,rfl⟩
 have KY:Kept (fun b=>b=nb) W Y:=by rw [hY];exact (Kept.refl (fun b=>b=nb) W).setCell (p:=⟨nb,0,none⟩) rfl _
 have HK:Hid (Kept (fun b=>b=nb) W Y):=KY
 have HN:Hid (Y.cell? ⟨nb,0,none⟩=some (.int .i64 ((k:Int)+1))/\Y.frozen? ⟨nb,0,none⟩=false):=⟨by rw [hY];exact set_same hn,by rw [hY,World.frozen?_setCell];exact hf⟩
 have HM:Hid (Y.cell? ⟨mb,0,none⟩=some (.slice ma ml.length mc)):=by show _=_;rw [KY.cell (p:=⟨mb,0,none⟩) (lt_of_cell hm) hne];exact hm
 have HC:Hid (∀ (h:k < ml.length),∃ b o,ma=some ⟨b,o,none⟩/\Y.cell? ⟨b,o+k,none⟩=some (.int .i64 ml[k])):=fun h=>by
  rcases hI.2 with e|⟨b,o,e,hc⟩
  ·omega
  ·exact ⟨b,o,e,by rw [KY.cell (p:=⟨b,o+k,none⟩) (lt_of_cell (hc k h)) (hna ⟨b,o,none⟩ e (by omega))];exact hc k h⟩
 have nl:=lt_of_cell hn
 have hml:(ml.length:Int)<=9223372036854775807:=by have:=hI.1;unfold maxLen at this;omega
 clear KY hm hI hna
 go_enter Try.func66,Try.ntmps66
 go_upto_region 2 with fail
 rw [<- hY]
 clear hY hn hf nl
 obtain ⟨n0,n1⟩:=HN.out
 have nl:=lt_of_cell n0
 have m0:=HM.out
 have ml0:=lt_of_cell m0
 by_cases hlt:k < ml.length
 ·obtain ⟨b,o,rfl,x0⟩:=HC.out hlt
  have xl:=lt_of_cell x0
  have hlz:(k:Int)+1<=(ml.length:Int):=by omega
  have HV:Hid (mvB ml k=(((ml[k] != 0):Bool).toNat:Int)):=by
   show _=_
   have e:ml.getD k 0=ml[k]:=by simp [List.getD,hlt]
   unfold mvB
   rw [e]
   by_cases h0:ml[k]=0
   ·rw [h0,if_neg (fun h=>h.2 rfl)];rfl
   ·rw [if_pos ⟨hlt,h0⟩,show (ml[k] != 0)=true by simp [h0]];rfl
  generalize ml[k]=z at *
  have hw:IntKind.i64.wrap ((k:Int)+1 - 1)=(k:Int):=by rw [IntKind.wrap_i64]<;>omega
  go_wp2_with fail
  refine (iOne1 _ _).mono ?_
  rintro e w' ⟨rfl,hw'⟩
  have hw'':=hw'.symm
  clear hw'
  subst hw''
  go_wp2
  go_ret
  exact ⟨by rw [HV.out];rfl,by rw [HN.out.1];rfl,HN.out.2,HK.out⟩
 ·have hlz:¬ (k:Int)+1<=(ml.length:Int):=by omega
  have HV:Hid (mvB ml k=0):=by show _=_;unfold mvB;rw [if_neg (fun h=>hlt h.1)]
  go_wp2_with fail
  refine (iOne1 _ _).mono ?_
  rintro e w' ⟨rfl,hw'⟩
  have hw'':=hw'.symm
  clear hw'
  subst hw''
  go_wp2
  go_ret
  exact ⟨by rw [HV.out];rfl,by rw [HN.out.1];rfl,HN.out.2,HK.out⟩
theorem iMoves (ma:Option Addr) (m mc:Nat) (W:World) :
 Calls Try.prog 38 #[.slice ma m mc] W fun e w'=>e=.returned (.func (.func 66) #[] #[ptr (W.heap.size+1),ptr W.heap.size])/\w'.cell? ⟨W.heap.size,0,none⟩=some (.slice ma m mc)/\w'.cell? ⟨W.heap.size+1,0,none⟩=some (.int .i64 0)/\w'.frozen? ⟨W.heap.size+1,0,none⟩=false/\Below W.heap.size W w':=by
 go_enter Try.func38,Try.ntmps38
 go_wp2
 go_ret
 have e1:(W.alloc (.cells #[.slice ma m mc] 35)).heap.size=W.heap.size+1:=by simp
 have b1:Below (W.alloc (.cells #[.slice ma m mc] 35)).heap.size (W.alloc (.cells #[.slice ma m mc] 35)) ((W.alloc (.cells #[.slice ma m mc] 35)).alloc (.cells #[.int .i64 0] 3)):=(Below.refl _ _).alloc (Nat.le_refl _) _
 have c0:(W.alloc (.cells #[.slice ma m mc] 35)).cell? ⟨W.heap.size,0,none⟩=some (.slice ma m mc):=by simp
 refine ⟨rfl,by rw [b1.cell (p:=⟨W.heap.size,0,none⟩) (lt_of_cell c0)];exact c0,by rw [<- e1];simp,by rw [<- e1];simp,((Below.refl _ _).alloc (Nat.le_refl _) _).alloc (by simp) _⟩
theorem iPlay (row:List Bool) (F:Nat->Bool) (v:Int) (ps:List Pk) (ml:List Int) (ra la ma:Option Addr) (c lc mc:Nat) (w:World) (hn:row.length<=12) (hB:Bools w ra row) (hv:bitB v=true) (hl:ps.length<=5000) (hP:Pks w la ps) (hb:∀ p∈ps,bitB p.v=true) (hM:Ints w ma ml) (hml:ml.length<=1000) :
 Calls Try.prog 11 #[.slice ra row.length c,tv (row.length:Int) (bs (tab row.length F)),.int .i64 v,.slice la ps.length lc,.slice ma ml.length mc] w fun e w'=>e=.returned (.int .i64 (atB row.length F (run (gP ps) (mvB ml) (row.map (ownF v)) 0 [])))/\Below w.heap.size w w':=by
 have hwf:∀ p∈ps,(Lit.int .i64 p.v).wf=true:=fun p hp=>by
  have:=Wp9.bit_in.1 (hb p hp)
  have h2:p.v=0\/p.v=1:=by omega
  rcases h2 with e|e<;>rw [e]<;>rfl
 obtain ⟨X0,hX0⟩:∃ X,X=w.alloc (.cells #[.int .i64 (row.length:Int),.string (bs (tab row.length F))] 26):=⟨_,rfl⟩
 have b0:Below w.heap.size w X0:=by rw [hX0];exact (Below.refl _ _).alloc (Nat.le_refl _) _
 have HB0:Hid (Below w.heap.size w X0):=b0
 have HL0:Hid (Lay X0 w.heap.size (.int .i64 (row.length:Int)) (.string (bs (tab row.length F)))):=by rw [hX0];exact Lay.made _ _ _ _
 have hE:w.alloc (.cells #[.int .i64 (row.length:Int),.string (bs (tab row.length F))] 26)=X0:=hX0.symm
 have HGA:Hid _:=iGame row.length F v row ra c X0 hn rfl (hB.below b0) hv
 have HFI:Hid (∀ W,Below w.heap.size w W->Calls Try.prog 35 #[.slice la ps.length lc] W fun e w'=>(∃ bm,e=.returned (.map (some bm))/\W.heap.size<=bm/\∃ k,Mv w' bm k (fp ps))/\Below W.heap.size W w'):=fun W hb=>iFirst W la ps lc (pks_below hP hb) (by omega) hwf
 have HMI:Hid (Ints w ma ml):=hM
 have HGB:Hid (∀ vs,bitB (gP ps vs)=true):=fun vs=>gP_bit hb vs
 have HTA:Hid (∀ (W:World) (a:Option Addr) (l:List Int) (c:Nat),Ints W a l->Calls Try.prog 39 #[tv (row.length:Int) (bs (tab row.length F)),.slice a l.length c] W fun e w'=>e=.returned (.int .i64 (atB row.length F l))/\Below W.heap.size W w'):=fun W a l c h=>iTableAt row.length F a l c W hn h
 have HOL:Hid (ownL v row=row.map (ownF v)):=ownL_yes hv
 have HLE:Hid ((row.map (ownF v)).length=row.length):=List.length_map _
 have hn12:(row.map (ownF v)).length<=12:=by rw [List.length_map];exact hn
 rw [HOL.out] at HGA
 clear hX0 b0 hB hv hl hP hb hM hwf HOL
 generalize hOLE:row.map (ownF v)=OL at *
 have HOE:Hid (row.map (ownF v)=OL):=hOLE
 clear hOLE
 generalize bs (tab row.length F)=S at *
 obtain ⟨R,hR⟩:∃ R,R=run (gP ps) (mvB ml) OL 0 []:=⟨_,rfl⟩
 have HR:Hid (R=run (gP ps) (mvB ml) OL 0 []):=hR
 rw [<- hR]
 clear hR
 go_enter Try.func11,Try.ntmps11
 go_upto_region 1 with fail
 clear hE
 obtain ⟨d0,d1,_,_⟩:=HL0.out
 have hd:=HL0.out.lt
 go_wp2_with fail
 clear d0 d1 hd
 refine Calls.mono HGA.out ?_
 rintro e w1 ⟨⟨ga,go,rfl,hb1'⟩,hb1⟩
 have HB1:Hid (Below w.heap.size w w1):=HB0.out.trans (hb1.mono HB0.out.size)
 have HO1:Hid (Bools w1 ga OL):=hb1'
 have HT1:Hid (Lay w1 w.heap.size (.int .i64 (row.length:Int)) (.string S)):=HL0.out.below hb1
 clear hb1 hb1' HB0 HL0 HGA
 go_upto_region 2 with fail
 obtain ⟨W2,hW2⟩:∃ X,X=w1.alloc (.cells #[.int .i64 (row.length:Int),.string S,.int .i64 v,.slice ga OL.length go] 55):=⟨_,rfl⟩
 obtain ⟨g,hg⟩:∃ g,g=w1.heap.size:=⟨_,rfl⟩
 have hb2:Below w1.heap.size w1 W2:=by rw [hW2];exact (Below.refl _ _).alloc (Nat.le_refl _) _
 have HB2:Hid (Below w.heap.size w W2):=HB1.out.trans (hb2.mono HB1.out.size)
 have HG2:Hid (G4 W2 g (.int .i64 (row.length:Int)) (.string S) (.int .i64 v) (.slice ga OL.length go)):=by rw [hW2,hg];exact G4.made _ _ _ _ _ _
 have HO2:Hid (Bools W2 ga OL):=HO1.out.below hb2
 have HT2:Hid (Lay W2 w.heap.size (.int .i64 (row.length:Int)) (.string S)):=HT1.out.below hb2
 rw [<- hW2,<- hg]
 clear hW2 hg hb2 HB1 HO1 HT1
 go_upto_region 4 with fail
 go_wp2_with fail
 refine (HFI.out _ HB2.out).mono ?_
 rintro e w3 ⟨⟨bm,rfl,hbm,kk,hMv⟩,hb3⟩
 have HB3:Hid (Below w.heap.size w w3):=HB2.out.trans (hb3.mono HB2.out.size)
 have HG3:Hid (G4 w3 g (.int .i64 (row.length:Int)) (.string S) (.int .i64 v) (.slice ga OL.length go)):=HG2.out.below hb3
 have HO3:Hid (Bools w3 ga OL):=HO2.out.below hb3
 have HT3:Hid (Lay w3 w.heap.size (.int .i64 (row.length:Int)) (.string S)):=HT2.out.below hb3
 have HM3:Hid (Mv w3 bm kk (fp ps)):=hMv
 clear hb3 hMv hbm HB2 HG2 HO2 HT2
 go_wp2_with fail
 refine (iMoves ma ml.length mc w3).mono ?_
 rintro e w4 ⟨rfl,hm4,hn4,hf4,hb4⟩
 obtain ⟨mb,hmb⟩:∃ y,y=w3.heap.size:=⟨_,rfl⟩
 obtain ⟨nb,hnb⟩:∃ y,y=w3.heap.size+1:=⟨_,rfl⟩
 rw [<- hnb] at hn4 hf4 ⊢
 rw [<- hmb] at hm4 ⊢
 have hmn:mb+1=nb:=by omega
 have HB4:Hid (Below w.heap.size w w4):=HB3.out.trans (hb4.mono HB3.out.size)
 have HG4:Hid (G4 w4 g (.int .i64 (row.length:Int)) (.string S) (.int .i64 v) (.slice ga OL.length go)):=HG3.out.below hb4
 have HO4:Hid (Bools w4 ga OL):=HO3.out.below hb4
 have HT4:Hid (Lay w4 w.heap.size (.int .i64 (row.length:Int)) (.string S)):=HT3.out.below hb4
 have HM4:Hid (Mv w4 bm kk (fp ps)):=HM3.out.below hb4
 have HMI4:Hid (Ints w4 ma ml):=HMI.out.below HB4.out
 have HLW:Hid (w.heap.size < mb/\bm < mb/\(∀ x,ga=some x->0 < OL.length->x.block < mb)/\(∀ x,ma=some x->0 < ml.length->x.block < mb)/\w.heap.size<=mb):=by
  refine ⟨by rw [hmb];exact HT3.out.lt,by rw [hmb];exact HM3.out.lt,fun x hx h0=>by rw [hmb];exact Wr3.ra_lt HO3.out hx h0,fun x hx h0=>?_,by rw [hmb];exact HB3.out.size⟩
  rcases (HMI.out.below HB3.out).2 with e|⟨y,o,e,hc⟩
  ·omega
  ·rw [hx] at e
   cases e
   rw [hmb]
   exact lt_of_cell (hc 0 h0)
 have HN4:Hid (w4.cell? ⟨mb,0,none⟩=some (.slice ma ml.length mc)/\w4.cell? ⟨nb,0,none⟩=some (.int .i64 0)/\w4.frozen? ⟨nb,0,none⟩=false):=⟨hm4,hn4,hf4⟩
 have hnl:nb < w4.heap.size:=lt_of_cell hn4
 clear hm4 hn4 hf4 hb4 hmb hnb HB3 HG3 HO3 HT3 HM3
 obtain ⟨w5,hw5⟩:∃ X,X=w4.alloc (.cells #[] 3):=⟨_,rfl⟩
 have hb5:Below w4.heap.size w4 w5:=by rw [hw5];exact (Below.refl _ _).alloc (Nat.le_refl _) _
 have HO5:Hid (Ows w5 w4.heap.size (.slice (some ⟨w4.heap.size,0,none⟩) 0 0) []):=by rw [hw5];exact Ows.lit w4 _ (Nat.le_refl _)
 have HS5:Hid (w4.heap.size < w5.heap.size):=by show _ < _;rw [hw5];simp
 have HB5:Hid (Below w4.heap.size w4 w5):=hb5
 have HT5:Hid (w4.heap.size<=w5.heap.size):=hb5.size
 have HN5:Hid (w5.cell? ⟨nb,0,none⟩=some (.int .i64 0)/\w5.frozen? ⟨nb,0,none⟩=false):=⟨by rw [hb5.cell (p:=⟨nb,0,none⟩) hnl];exact HN4.out.2.1,by rw [hb5.frozen (p:=⟨nb,0,none⟩) hnl];exact HN4.out.2.2⟩
 have HG5:Hid (G4 w5 g (.int .i64 (row.length:Int)) (.string S) (.int .i64 v) (.slice ga OL.length go)):=HG4.out.below hb5
 clear hb5
 go_upto_region 6 with fail
 rw [<- hw5]
 clear hw5
 obtain ⟨_,_,_,g3,_,_,_,_⟩:=HG5.out
 have gl:=lt_of_cell g3
 go_wp2_with fail
 clear g3 gl
 go_loopw [15,35] (fun z i wr=>∃ (k j:Nat) (vs:List Int),k<=OL.length/\i=.int .i64 (k:Int)/\Ows wr w4.heap.size z vs/\vs.length=k/\j<=k/\wr.cell? ⟨nb,0,none⟩=some (.int .i64 (j:Int))/\wr.frozen? ⟨nb,0,none⟩=false/\Below nb w4 wr/\run (gP ps) (mvB ml) (OL.drop k) j vs=R/\∀ b∈vs,bitB b=true) (fun _ i _=>OL.length - (intOf i).toNat)
 case atStart=>exact ⟨0,0,[],Nat.zero_le _,rfl,HO5.out,rfl,Nat.le_refl _,HN5.out.1,HN5.out.2,HB5.out.mono (Nat.le_of_lt hnl),HR.out.symm,fun b hb=>by cases hb⟩
 case round =>
  obtain ⟨k,j,vs,hk,rfl,hows,rfl,hjk,hnc,hnf,hbr,hrun,hbits⟩:=hrel
  obtain ⟨va,vc,rfl,hwi⟩:=hows.form
  have HBR:Hid (Below nb w4 wr):=hbr
  have HOW:Hid (Ows wr w4.heap.size (.slice va vs.length vc) vs):=hows
  have HVI:Hid (Ints wr va vs):=hwi.ints
  have HNC:Hid (wr.cell? ⟨nb,0,none⟩=some (.int .i64 (j:Int))/\wr.frozen? ⟨nb,0,none⟩=false):=⟨hnc,hnf⟩
  have HBT:Hid (∀ b∈vs,bitB b=true):=hbits
  have HRN:Hid (run (gP ps) (mvB ml) (OL.drop vs.length) j vs=R):=hrun
  have hsz:=hbr.size
  clear hbr hows hwi hnc hnf hbits hrun
  by_cases hlt:vs.length < OL.length
  ·have hlz:(vs.length:Int) < (OL.length:Int):=by omega
   obtain ⟨ab,ao,hga,hfl⟩:∃ ab ao,ga=some ⟨ab,ao,none⟩/\wr.cell? ⟨ab,ao+vs.length,none⟩=some (.bool OL[vs.length]):=by
    rcases HO4.out.2 with e|⟨ab,ao,e,hc⟩
    ·omega
    ·have h1:=HLW.out.2.2.1 ⟨ab,ao,none⟩ e (by omega)
     exact ⟨ab,ao,e,by rw [HBR.out.cell (p:=⟨ab,ao+vs.length,none⟩) (by show ab < nb;have h2:ab < mb:=h1;omega)];exact hc vs.length hlt⟩
   have HDR:Hid (OL.drop vs.length=OL[vs.length] :: OL.drop (vs.length+1)):=List.drop_eq_getElem_cons hlt
   rw [HDR.out] at HRN
   have fl:=lt_of_cell hfl
   generalize OL[vs.length]=fg at hfl HRN
   cases fg
   ·have HMV:Hid _:=iMove nb mb ma ml mc j wr HNC.out.1 HNC.out.2 (by rw [HBR.out.cell (p:=⟨mb,0,none⟩) (by show mb < nb;omega)];exact HN4.out.1) (by
     refine ⟨HMI4.out.1,?_⟩
     rcases HMI4.out.2 with e|⟨y,o,e,hc⟩
     ·exact .inl e
     ·refine .inr ⟨y,o,e,fun i hi=>?_⟩
      have h1:=HLW.out.2.2.2.1 ⟨y,o,none⟩ e (by omega)
      rw [HBR.out.cell (p:=⟨y,o+i,none⟩) (by show y < nb;have h2:y < mb:=h1;omega)]
      exact hc i hi) (by omega) (by omega) (fun x hx h0=>by have:=HLW.out.2.2.2.1 x hx h0;omega)
    have HBM:Hid (bitB (mvB ml j)=true):=mvB_bit ml j
    have HRX:Hid (run (gP ps) (mvB ml) (OL.drop (vs.length+1)) (j+1) (vs++[mvB ml j])=R):=HRN.out
    generalize mvB ml j=mz at HMV HBM HRX
    subst hga
    go_upto_region 11 with fail
    clear hfl fl
    go_wp2_with fail
    refine Calls.mono HMV.out ?_
    rintro e w6 ⟨rfl,hn6,hf6,hk6⟩
    have HOW6:Hid (Ows w6 w4.heap.size (.slice va vs.length vc) vs):=HOW.out.kept hk6 (fun i hi e=>by have:=(HOW.out.lt i hi).1;omega)
    have HN6:Hid (w6.cell? ⟨nb,0,none⟩=some (.int .i64 ((j+1:Nat):Int))/\w6.frozen? ⟨nb,0,none⟩=false):=⟨hn6,hf6⟩
    have HB6:Hid (Below nb w4 w6):=HBR.out.trans (hk6.below (fun b hb=>by omega) (by omega))
    have hs6:=hk6.size
    clear hn6 hf6 hk6 HMV
    go_upto_region 12 with (at_builtin;go_must (refine app_int _ rfl _ _ rfl w4.heap.size (.slice va vs.length vc) vs mz rfl rfl HOW6.out (by omega) (by omega) ?_;intro g7 cp7 w7 ho7 hk7 hg7;have HO7:Hid (Ows w7 w4.heap.size (.slice (some ⟨g7,0,none⟩) (vs.length+1) cp7) (vs++[mz])):=ho7;have HK7:Hid (Kept (fun b=>((.slice va vs.length vc):Value).ownBlock=some b) w6 w7):=hk7;clear ho7 hk7 hg7))
    go_wp2
    go_roundw
    case rel =>
     have hne:∀ b,((.slice va vs.length vc):Value).ownBlock=some b->w4.heap.size<=b:=fun b hb=>(HOW6.out.lt b hb).1
     refine ⟨vs.length+1,j+1,vs++[mz],by omega,by go_num,HO7.out,by rw [List.length_append,List.length_singleton],by omega,by rw [HK7.out.cell (p:=⟨nb,0,none⟩) (lt_of_cell HN6.out.1) (fun h=>by have:=hne nb h;omega)];exact HN6.out.1,by rw [HK7.out.frozen (p:=⟨nb,0,none⟩) (lt_of_cell HN6.out.1) (fun h=>by have:=hne nb h;omega)];exact HN6.out.2,HB6.out.trans (HK7.out.below (fun b hb=>by have:=hne b hb;omega) (by omega)),HRX.out,fun b hb=>?_⟩
     rcases List.mem_append.1 hb with e|e
     ·exact HBT.out b e
     ·rw [List.mem_singleton.1 e];exact HBM.out
    case measure=>simp [intOf];omega
   ·have HSP:Hid _:=iSpot va vs vc wr (by omega) (bits_at HBT.out) HVI.out
    have HSM:Hid (Sm (sp vs)):=sp_small (val_of HBT.out (by omega))
    obtain ⟨X,hX⟩:∃ X:Sp,X=sp vs:=⟨_,rfl⟩
    have hX1:(vs.length:Int)=(X.1:Int):=by rw [hX];rfl
    have hX2:((plc vs vs.length:Nat):Int)=(X.2:Int):=by rw [hX];rfl
    rw [hX2] at HSP
    have HSP2:Hid (Calls Try.prog 37 #[.slice va vs.length vc] wr fun e w'=>e=.returned (Mv0.agg X)/\Below wr.heap.size wr w'):=Calls.mono HSP.out fun e w' h=>by rw [hX1] at h;exact h
    have HGV:Hid (gP ps vs=(fp ps X).getD 0):=by show _=_;rw [hX];rfl
    have HBM:Hid (bitB (gP ps vs)=true):=HGB.out vs
    have HRX:Hid (run (gP ps) (mvB ml) (OL.drop (vs.length+1)) j (vs++[gP ps vs])=R):=HRN.out
    rw [<- hX] at HSM
    clear HSP hX hX1 hX2
    subst hga
    go_upto_region 10 with fail
    clear hfl fl
    go_wp2_with fail
    refine Calls.mono HSP2.out ?_
    rintro e w6 ⟨rfl,hb6⟩
    have HB6:Hid (Below nb w4 w6):=HBR.out.trans (hb6.mono (by omega))
    have HOW6:Hid (Ows w6 w4.heap.size (.slice va vs.length vc) vs):=HOW.out.kept (S:=fun _=>False) (Kept.ofBelow hb6) (fun _ _ h=>h)
    have HN6:Hid (w6.cell? ⟨nb,0,none⟩=some (.int .i64 (j:Int))/\w6.frozen? ⟨nb,0,none⟩=false):=⟨by rw [hb6.cell (p:=⟨nb,0,none⟩) (lt_of_cell HNC.out.1)];exact HNC.out.1,by rw [hb6.frozen (p:=⟨nb,0,none⟩) (lt_of_cell HNC.out.1)];exact HNC.out.2⟩
    have hs6:=hb6.size
    have hlk:=mv_get (HM4.out.kept (w':=w6) (S:=fun b=>nb<=b) ⟨HB6.out.os,HB6.out.tape,HB6.out.output,HB6.out.size,fun b hb hn=>HB6.out.block b (by omega)⟩ (by have:=HLW.out.2.1;omega)) HSM.out
    rw [<- HGV.out] at hlk
    generalize gP ps vs=mz at hlk HBM HRX HGV
    clear hb6 HSP2 HGV
    go_upto_region 12 with (at_builtin;go_must (refine app_int _ rfl _ _ rfl w4.heap.size (.slice va vs.length vc) vs mz rfl rfl HOW6.out (by omega) (by omega) ?_;intro g7 cp7 w7 ho7 hk7 hg7;have HO7:Hid (Ows w7 w4.heap.size (.slice (some ⟨g7,0,none⟩) (vs.length+1) cp7) (vs++[mz])):=ho7;have HK7:Hid (Kept (fun b=>((.slice va vs.length vc):Value).ownBlock=some b) w6 w7):=hk7;clear ho7 hk7 hg7))
    clear hlk
    go_wp2
    go_roundw
    case rel =>
     have hne:∀ b,((.slice va vs.length vc):Value).ownBlock=some b->w4.heap.size<=b:=fun b hb=>(HOW6.out.lt b hb).1
     refine ⟨vs.length+1,j,vs++[mz],by omega,by go_num,HO7.out,by rw [List.length_append,List.length_singleton],by omega,by rw [HK7.out.cell (p:=⟨nb,0,none⟩) (lt_of_cell HN6.out.1) (fun h=>by have:=hne nb h;omega)];exact HN6.out.1,by rw [HK7.out.frozen (p:=⟨nb,0,none⟩) (lt_of_cell HN6.out.1) (fun h=>by have:=hne nb h;omega)];exact HN6.out.2,HB6.out.trans (HK7.out.below (fun b hb=>by have:=hne b hb;omega) (by omega)),HRX.out,fun b hb=>?_⟩
     rcases List.mem_append.1 hb with e|e
     ·exact HBT.out b e
     ·rw [List.mem_singleton.1 e];exact HBM.out
    case measure=>simp [intOf];omega
  ·have hlz:¬ (vs.length:Int) < (OL.length:Int):=by omega
   have hvr:vs=R:=by
    have h:=HRN.out
    rw [List.drop_of_length_le (by omega)] at h
    exact h
   have HVR:Hid (vs=R):=hvr
   clear hvr
   have HT6:Hid (Lay wr w.heap.size (.int .i64 (row.length:Int)) (.string S)):=HT4.out.kept (S:=fun b=>nb<=b) ⟨HBR.out.os,HBR.out.tape,HBR.out.output,HBR.out.size,fun b hb hn=>HBR.out.block b (by omega)⟩ (by have:=HLW.out.1;omega)
   obtain ⟨t0,t1,_,_⟩:=HT6.out
   have tl0:=lt_of_cell t0
   go_wp2_with fail
   refine (HTA.out _ va vs vc HVI.out).mono ?_
   rintro e w6 ⟨rfl,hb6⟩
   have HB6:Hid (Below w.heap.size w w6):=(HB4.out.trans (HBR.out.mono (by have:=HLW.out.2.2.2.2;omega))).trans (hb6.mono (by have:=HB4.out.size;omega))
   clear hb6
   go_wp2
   go_ret
   exact ⟨by rw [HVR.out];rfl,HB6.out⟩
end Wt1
namespace Dr0
open Go.RowKit
/-- From w to w' no block that was there has turned but block b. -/
structure Only (b:Nat) (w w':World):Prop where
 os:w'.os=w.os
 tape:w'.tape=w.tape
 output:w'.output=w.output
 size:w.heap.size<=w'.heap.size
 block:∀ k,k < w.heap.size->k≠b->w'.heap[k]? = w.heap[k]?
theorem Only.refl (b:Nat) (w:World):Only b w w:=⟨rfl,rfl,rfl,Nat.le_refl _,fun _ _ _=>rfl⟩
theorem Only.trans {b:Nat} {u v w:World} (h:Only b u v) (k:Only b v w):Only b u w :=
 ⟨k.os.trans h.os,k.tape.trans h.tape,k.output.trans h.output,Nat.le_trans h.size k.size,fun i hi hb=>(k.block i (Nat.lt_of_lt_of_le hi h.size) hb).trans (h.block i hi hb)⟩
theorem Only.drew {b:Nat} {u w:World} (h:Only b u w):Only b u w.drew:=⟨h.os,h.tape,h.output,h.size,h.block⟩
theorem Only.drewN {b:Nat} {u w:World} (h:Only b u w) (n:Nat):Only b u (w.drewN n):=⟨h.os,h.tape,h.output,h.size,h.block⟩
theorem Only.alloc {b:Nat} {u w:World} (h:Only b u w) (o:Obj):Only b u (w.alloc o) :=
 h.trans ⟨rfl,rfl,rfl,by simp,fun k hk _=>Below.heap_alloc _ _ _ hk⟩
theorem Only.setCell {b:Nat} {u w:World} (h:Only b u w) {p:Addr} (hp:p.block=b) (x:Value):Only b u (w.setCell p x) :=
 h.trans ⟨rfl,rfl,rfl,by simp [World.setCell],fun k _ hk=>Below.heap_setCell _ _ _ _ (by omega)⟩
theorem Only.cell {b:Nat} {w w':World} (h:Only b w w') {p:Addr} (hp:p.block < w.heap.size) (hb:p.block≠b):w'.cell? p=w.cell? p :=
 World.cell?_of_block (w:=w) (h.block p.block hp hb)
theorem Only.frozen {b:Nat} {w w':World} (h:Only b w w') {p:Addr} (hp:p.block < w.heap.size) (hb:p.block≠b):w'.frozen? p=w.frozen? p :=
 World.frozen?_of_block (w:=w) (h.block p.block hp hb)
theorem Only.below {b B:Nat} {w w':World} (h:Only b w w') (hB:B<=b) (hs:B<=w.heap.size):Below B w w' :=
 ⟨h.os,h.tape,h.output,h.size,fun k hk=>h.block k (by omega) (by omega)⟩
theorem lt_of_cell {w:World} {p:Addr} {v:Value} (h:w.cell? p=some v):p.block < w.heap.size:=by
 have:∃ o,w.heap[p.block]? = some o:=by
  unfold World.cell? at h
  cases e:w.heap[p.block]? with
  | none=>simp [e] at h
  | some o=>exact ⟨o,rfl⟩
 obtain ⟨o,ho⟩:=this
 obtain ⟨hl,_⟩:=Array.getElem?_eq_some_iff.1 ho
 exact hl
/-- A slice of bytes that came in: it may be read. -/
def Bytes (w:World) (a:Option Addr) (len:Nat):Prop :=
 len<=maxLen/\(len=0\/∃ xb xo,a=some ⟨xb,xo,none⟩/\∀ i,i < len->∃ v:Int,0<=v/\v<=255/\w.cell? ⟨xb,xo+i,none⟩=some (.int .u8 v))
/-- .. and it lies in another block than b. -/
def Off (a:Option Addr) (len b:Nat):Prop:=len=0\/∀ x,a=some x->x.block≠b
theorem Bytes.only {b:Nat} {w w':World} {a:Option Addr} {len:Nat} (h:Bytes w a len) (ho:Off a len b) (k:Only b w w'):Bytes w' a len:=by
 refine ⟨h.1,?_⟩
 rcases h.2 with h0|⟨xb,xo,rfl,hc⟩
 ·exact .inl h0
 ·rcases ho with h0|ho
  ·exact .inl h0
  ·refine .inr ⟨xb,xo,rfl,fun i hi=>?_⟩
   obtain ⟨v,h1,h2,h3⟩:=hc i hi
   exact ⟨v,h1,h2,by rw [k.cell (lt_of_cell h3) (ho ⟨xb,xo,none⟩ rfl)];exact h3⟩
theorem Bytes.below {w w':World} {a:Option Addr} {len:Nat} (h:Bytes w a len) (k:Below w.heap.size w w'):Bytes w' a len:=by
 refine ⟨h.1,?_⟩
 rcases h.2 with h0|⟨xb,xo,rfl,hc⟩
 ·exact .inl h0
 ·refine .inr ⟨xb,xo,rfl,fun i hi=>?_⟩
  obtain ⟨v,h1,h2,h3⟩:=hc i hi
  exact ⟨v,h1,h2,by rw [k.cell (lt_of_cell h3)];exact h3⟩
/-- A cursor over a slice of bytes in block b. -/
structure Cur (w:World) (b:Nat) (a:Option Addr) (len cap:Nat):Prop where
 c0:w.cell? ⟨b,0,none⟩=some (.slice a len cap)
 c1:∃ i:Nat,i<=len/\w.cell? ⟨b,1,none⟩=some (.int .i64 i)
 c2:∃ h:Int,w.cell? ⟨b,2,none⟩=some (.int .i64 h)
 f1:w.frozen? ⟨b,1,none⟩=false
 f2:w.frozen? ⟨b,2,none⟩=false
 bytes:Bytes w a len
 off:Off a len b
theorem set_other {w:World} {p q:Addr} {v:Value} (h:p≠q):(w.setCell p v).cell? q=w.cell? q:=by apply World.cell?_setCell_other;exact h
theorem set_same {w:World} {p:Addr} {u v:Value} (h:w.cell? p=some u):(w.setCell p v).cell? p=some v:=by apply World.cell?_setCell_same;exact h
theorem Cur.drewN {w:World} {b:Nat} {a:Option Addr} {len cap:Nat} (h:Cur w b a len cap) (n:Nat):Cur (w.drewN n) b a len cap :=
 ⟨h.c0,h.c1,h.c2,h.f1,h.f2,h.bytes.only h.off ((Only.refl b w).drewN n),h.off⟩
theorem Cur.drew {w:World} {b:Nat} {a:Option Addr} {len cap:Nat} (h:Cur w b a len cap):Cur w.drew b a len cap :=
 ⟨h.c0,h.c1,h.c2,h.f1,h.f2,h.bytes.only h.off (Only.refl b w).drew,h.off⟩
theorem Cur.setH {w:World} {b:Nat} {a:Option Addr} {len cap:Nat} (h:Cur w b a len cap) (x:Int):Cur (w.setCell ⟨b,2,none⟩ (.int .i64 x)) b a len cap:=by
 obtain ⟨i,hi,h1⟩:=h.c1
 obtain ⟨y,h2⟩:=h.c2
 refine ⟨?_,⟨i,hi,?_⟩,⟨x,?_⟩,?_,?_,h.bytes.only h.off ((Only.refl b w).setCell rfl _),h.off⟩
 ·rw [set_other (by simp)];exact h.c0
 ·rw [set_other (by simp)];exact h1
 ·exact set_same h2
 ·rw [World.frozen?_setCell];exact h.f1
 ·rw [World.frozen?_setCell];exact h.f2
theorem Cur.setI {w:World} {b:Nat} {a:Option Addr} {len cap:Nat} (h:Cur w b a len cap) (i:Nat) (hi:i < len):Cur (w.setCell ⟨b,1,none⟩ (.int .i64 ((i:Int)+1))) b a len cap:=by
 obtain ⟨j,hj,h1⟩:=h.c1
 obtain ⟨y,h2⟩:=h.c2
 refine ⟨?_,⟨i+1,by omega,?_⟩,⟨y,?_⟩,?_,?_,h.bytes.only h.off ((Only.refl b w).setCell rfl _),h.off⟩
 ·rw [set_other (by simp)];exact h.c0
 ·rw [set_same h1];simp
 ·rw [set_other (by simp)];exact h2
 ·rw [World.frozen?_setCell];exact h.f1
 ·rw [World.frozen?_setCell];exact h.f2
theorem Cur.lt {w:World} {b:Nat} {a:Option Addr} {len cap:Nat} (h:Cur w b a len cap):b < w.heap.size:=lt_of_cell (p:=⟨b,0,none⟩) h.c0
theorem Cur.alloc {w:World} {b:Nat} {a:Option Addr} {len cap:Nat} (h:Cur w b a len cap) (o:Obj):Cur (w.alloc o) b a len cap:=by
 have k:Below w.heap.size w (w.alloc o):=(Below.refl _ w).alloc (Nat.le_refl _) o
 have hb:=h.lt
 obtain ⟨i,hi,h1⟩:=h.c1
 obtain ⟨y,h2⟩:=h.c2
 exact ⟨by rw [k.cell hb];exact h.c0,⟨i,hi,by rw [k.cell hb];exact h1⟩,⟨y,by rw [k.cell hb];exact h2⟩,by rw [k.frozen hb];exact h.f1,by rw [k.frozen hb];exact h.f2,h.bytes.below k,h.off⟩
theorem Bytes.offNew {w:World} {a:Option Addr} {len:Nat} (h:Bytes w a len) (b:Nat) (hb:w.heap.size<=b):Off a len b:=by
 by_cases h0:len=0
 ·exact .inl h0
 ·rcases h.2 with h1|⟨xb,xo,rfl,hc⟩
  ·exact .inl h1
  ·refine .inr fun x hx=>?_
   obtain ⟨v,_,_,hv⟩:=hc 0 (by omega)
   have:=lt_of_cell hv
   simp at hx this
   subst hx
   simp
   omega
theorem Cur.made {w:World} {a:Option Addr} {len cap:Nat} (h:Bytes w a len) (x:Int) (T:Nat):Cur (w.alloc (.cells #[.slice a len cap,.int .i64 0,.int .i64 x] T)) w.heap.size a len cap:=by
 refine ⟨by simp,⟨0,Nat.zero_le _,by simp⟩,⟨x,by simp⟩,by simp,by simp,h.below ((Below.refl _ w).alloc (Nat.le_refl _) _),h.offNew _ (Nat.le_refl _)⟩
theorem bytes_of {w:World} {x:Addr} {len cap:Nat} {z:List Int} (hl:len<=cap) (hm:cap<=maxLen) (hz:z.length=cap) (hcell:∀ i,i < z.length->w.cell? (x.add i)=some (.int .u8 (z.getD i 0))) (hwz:∀ n∈z,(Lit.int .u8 n).wf=true):Bytes w (some x) len:=by
 refine ⟨by omega,?_⟩
 by_cases h0:len=0
 ·exact .inl h0
 ·obtain ⟨xb,xo,spot⟩:=x
  have hc:=hcell 0 (by omega)
  have hspot:spot=none:=by simpa [Addr.add] using World.cell?_spot hc
  subst hspot
  refine .inr ⟨xb,xo,rfl,fun i hi=>⟨z.getD i 0,?_⟩⟩
  have hi2:i < z.length:=by omega
  have eg:z.getD i 0=z[i]:=by simp [List.getD,hi2]
  have hw:=hwz (z.getD i 0) (by rw [eg];exact List.getElem_mem _)
  have hk:=hcell i hi2
  rw [Addr.add_lit] at hk
  generalize z.getD i 0=v at hw hk ⊢
  simp [Lit.wf,IntKind.min,IntKind.max,IntKind.signed,IntKind.bits] at hw
  exact ⟨by omega,by omega,hk⟩
theorem and255 (x:Int):0<=bits .and .i64 x 255/\bits .and .i64 x 255<=255:=by
 have e:bits .and .i64 x 255=IntKind.i64.wrap ((BitVec.ofInt 64 x &&& BitVec.ofInt 64 255).toNat:Int):=rfl
 have h:(BitVec.ofInt 64 x &&& BitVec.ofInt 64 255).toNat<=255:=by
  rw [BitVec.toNat_and];exact Nat.and_le_right
 rw [e,IntKind.wrap_i64]
 omega
theorem and30 (x:Int):0<=bits .and .i64 x 1073741823/\bits .and .i64 x 1073741823<=1073741823:=by
 have e:bits .and .i64 x 1073741823=IntKind.i64.wrap ((BitVec.ofInt 64 x &&& BitVec.ofInt 64 1073741823).toNat:Int):=rfl
 have h:(BitVec.ofInt 64 x &&& BitVec.ofInt 64 1073741823).toNat<=1073741823:=by
  rw [BitVec.toNat_and];exact Nat.and_le_right
 rw [e,IntKind.wrap_i64]
 omega
end Dr0
namespace Dr1
open Go.RowKit
open Dr0
theorem byte (w:World) (b:Nat) (a:Option Addr) (len cap:Nat) (hc:Cur w b a len cap) :
 Calls Try.prog 50 #[.pointer (some ⟨b,0,none⟩)] w fun e w'=>(∃ x:Int,e=.returned (.int .i64 x)/\0<=x/\x<=255)/\Cur w' b a len cap/\Only b w w':=by
 have HC:Hid (Cur w b a len cap):=hc
 obtain ⟨c0,⟨i,hi,c1⟩,⟨h,c2⟩,f1,f2,hb,ho⟩:=hc
 by_cases hlt:i < len
 ·rcases hb.2 with h0|⟨xb,xo,rfl,hcell⟩
  ·omega
  have hne:xb≠b:=by
   rcases ho with h0|ho
   ·omega
   ·exact ho ⟨xb,xo,none⟩ rfl
  obtain ⟨v,hv0,hv1,hv⟩:=hcell i hlt
  have hlz:(i:Int) < (len:Int):=by omega
  have hm:=hb.1
  unfold maxLen at hm
  go_enter Try.func50,Try.ntmps50
  go_wp2
  generalize wrap64 (wrap64 (h*6364136223846793005)+1442695040888963407)=h1
  go_quiet (fail)
  go_wp2
  generalize bits BinOp.xor IntKind.i64 (h1 / 8589934592) (h1 / 35184372088832)=h2
  have hx:=and255 h2
  generalize bits BinOp.and IntKind.i64 h2 255=x at hx ⊢
  go_quiet (fail)
  go_wp2
  go_quiet (fail)
  go_wp2
  go_ret
  exact ⟨⟨_,rfl,(and255 _).1,(and255 _).2⟩,((HC.out.setH h1).drewN _).setI i hlt,(((Only.refl b w).setCell rfl _).drewN _).setCell rfl _⟩
 ·have hlz:¬ (i:Int) < (len:Int):=by omega
  go_enter Try.func50,Try.ntmps50
  go_wp2
  generalize wrap64 (wrap64 (h*6364136223846793005)+1442695040888963407)=h1
  go_quiet (fail)
  go_wp2
  generalize bits BinOp.xor IntKind.i64 (h1 / 8589934592) (h1 / 35184372088832)=h2
  go_quiet (fail)
  go_wp2
  go_ret
  exact ⟨⟨_,rfl,(and255 _).1,(and255 _).2⟩,((HC.out.setH h1).drewN _).drewN _,(((Only.refl b w).setCell rfl _).drewN _).drewN _⟩
theorem below (w:World) (b:Nat) (a:Option Addr) (len cap:Nat) (n:Int) (h0:1<=n) (h1:n<=256) (hc:Cur w b a len cap) :
 Calls Try.prog 24 #[.pointer (some ⟨b,0,none⟩),.int .i64 n] w fun e w'=>(∃ x:Int,e=.returned (.int .i64 x)/\0<=x/\x < n)/\Cur w' b a len cap/\Only b w w':=by
 have HC:Hid (Cur w b a len cap):=hc
 clear hc
 go_enter Try.func24,Try.ntmps24
 go_wp2_with fail
 refine (byte _ b a len cap HC.out).mono ?_
 rintro e w' ⟨⟨x,rfl,hx0,hx1⟩,hc',ho'⟩
 have HC':Hid (Cur w' b a len cap):=hc'
 have HO':Hid (Only b w w'):=ho'
 clear hc' ho'
 go_wp2
 go_ret
 exact ⟨⟨_,rfl,Int.emod_nonneg _ (by omega),Int.emod_lt_of_pos _ (by omega)⟩,HC'.out,HO'.out⟩
theorem once (w:World) (b:Nat) (a:Option Addr) (len cap:Nat) (n:Int) (h0:1<=n) (h1:n<=256) (hc:Cur w b a len cap) :
 Calls Try.prog 41 #[.pointer (some ⟨b,0,none⟩),.int .i64 n] w fun e w'=>(∃ x:Bool,e=.returned (.bool x))/\Cur w' b a len cap/\Only b w w':=by
 have HC:Hid (Cur w b a len cap):=hc
 clear hc
 go_enter Try.func41,Try.ntmps41
 go_wp2_with fail
 refine (below _ b a len cap n h0 h1 HC.out).mono ?_
 rintro e w' ⟨⟨x,rfl,hx0,hx1⟩,hc',ho'⟩
 have HC':Hid (Cur w' b a len cap):=hc'
 have HO':Hid (Only b w w'):=ho'
 clear hc' ho'
 go_wp2
 go_ret
 exact ⟨⟨_,rfl⟩,HC'.out,HO'.out⟩
/-- A list of whole numbers in a block of its own. -/
def Ints (w:World) (g:Nat) (n:Nat):Prop:=∀ i,i < n->∃ v:Int,w.cell? ⟨g,i,none⟩=some (.int .i64 v)
theorem pickInt (w:World) (b:Nat) (a:Option Addr) (len cap:Nat) (g n c:Nat) (h0:1<=n) (h1:n<=256) (hg:g≠b) (hi:Ints w g n) (hc:Cur w b a len cap) :
 Calls Try.prog 42 #[.pointer (some ⟨b,0,none⟩),.slice (some ⟨g,0,none⟩) n c] w fun e w'=>(∃ x:Int,e=.returned (.int .i64 x))/\Cur w' b a len cap/\Only b w w':=by
 have HC:Hid (Cur w b a len cap):=hc
 have HI:Hid (Ints w g n):=hi
 clear hc hi
 go_enter Try.func42,Try.ntmps42
 go_wp2_with fail
 refine (below _ b a len cap _ (by omega) (by omega) HC.out).mono ?_
 rintro e w' ⟨⟨x,rfl,hx0,hx1⟩,hc',ho'⟩
 have HC':Hid (Cur w' b a len cap):=hc'
 have HO':Hid (Only b w w'):=ho'
 clear hc' ho'
 obtain ⟨v,hv⟩:=HI.out x.toNat (by omega)
 have hv':w'.cell? ⟨g,x.toNat,none⟩=some (.int .i64 v):=by rw [HO'.out.cell (lt_of_cell hv) hg];exact hv
 clear hv
 go_wp2
 go_ret
 exact ⟨⟨_,rfl⟩,HC'.out,HO'.out⟩
end Dr1
namespace Dr4
open Go.RowKit
open Dr0 Dr1
theorem pickNew (w:World) (b:Nat) (a:Option Addr) (len cap:Nat) (c:Array Value) (T n:Nat) (h0:1<=n) (h1:n<=256) (hC:∀ i,i < n->∃ v:Int,c[i]? = some (.int .i64 v)) (hc:Cur w b a len cap) :
 Calls Try.prog 42 #[.pointer (some ⟨b,0,none⟩),.slice (some ⟨w.heap.size,0,none⟩) n n] (w.alloc (.cells c T)) fun e w'=>(∃ x:Int,e=.returned (.int .i64 x))/\Cur w' b a len cap/\Only b w w':=by
 have hb:=hc.lt
 refine (pickInt _ b a len cap w.heap.size n n h0 h1 (by omega) ?_ (hc.alloc _)).mono ?_
 ·intro i hi
  obtain ⟨v,hv⟩:=hC i hi
  exact ⟨v,by rw [World.cell?_alloc_new];exact hv⟩
 ·rintro e w' ⟨h1,h2,h3⟩
  exact ⟨h1,h2,((Only.refl b w).alloc _).trans h3⟩
theorem new (w:World) (a:Option Addr) (len cap:Nat) (hb:Bytes w a len) :
 Calls Try.prog 23 #[.slice a len cap] w fun e w'=>e=.returned (.pointer (some ⟨w.heap.size,0,none⟩))/\Cur w' w.heap.size a len cap/\Below w.heap.size w w':=by
 have hm:=hb.1
 unfold maxLen at hm
 have HB:Hid (Bytes w a len):=hb
 clear hb
 go_enter Try.func23,Try.ntmps23
 go_wp2
 go_loop [3,4] (fun h i=>∃ (k:Nat) (x:Int),k<=len/\i=.int .i64 k/\h=.int .i64 x) (fun _ i=>len - (intOf i).toNat)
 case atStart=>exact ⟨0,_,Nat.zero_le _,rfl,rfl⟩
 case round =>
  obtain ⟨k,x,hk,rfl,rfl⟩:=hrel
  by_cases hlt:k < len/\k < 4000
  ·obtain ⟨hlt,hl4⟩:=hlt
   rcases HB.out.2 with h0|⟨xb,xo,rfl,hcell⟩
   ·omega
   obtain ⟨v,hv0,hv1,hv⟩:=hcell k hlt
   clear hcell
   go_wp2
   go_round
   case rel=>exact ⟨k+1,_,by omega,by go_num,rfl⟩
   case measure=>simp [intOf];omega
  ·have hd:(decide ((k:Int) < (len:Int))&&decide ((k:Int) < 4000))=false:=by simp;omega
   by_cases hlt:k < len
   ·have hl4:¬ (k:Int) < 4000:=by omega
    clear hd
    go_wp2
    go_ret
    exact ⟨rfl,Cur.made HB.out x _,(Below.refl _ w).alloc (Nat.le_refl _) _⟩
   ·have hl4:¬ (k:Int) < (len:Int):=by omega
    clear hd
    go_wp2
    go_ret
    exact ⟨rfl,Cur.made HB.out x _,(Below.refl _ w).alloc (Nat.le_refl _) _⟩
end Dr4
namespace Tdw
open Go.RowKit
open Ta0 Ta1 Tc2 Tc5 Ap9 Td1 Td2
open Nd0 (Kept set_same)
open Dr0 (Cur Only Bytes)
open Ss0 (bs bs_size)
/-- Signs alone. -/
def Sgs (l:List UInt8):Prop:=∀ c∈l,c=48\/c=49
theorem sgs_nil:Sgs []:=fun c h=>by cases h
theorem sgs_app {l:List UInt8} (h:Sgs l) (b:Bool):Sgs (l++[sgn b]):=fun c hc=>by
 rcases List.mem_append.1 hc with h1|h1
 ·exact h c h1
 ·rw [List.mem_singleton.1 h1];cases b
  ·exact .inl rfl
  ·exact .inr rfl
theorem sgs_set {l:List UInt8} (h:Sgs l) (j:Nat):Sgs (l.set j 49):=fun c hc=>by
 rcases List.mem_or_eq_of_mem_set hc with h1|h1
 ·exact h c h1
 ·exact .inr h1
theorem sgs_tab {n:Nat} {l:List UInt8} (hl:l.length=2 ^ n) (h:Sgs l):∃ F:Nat->Bool,bs l=bs (tab n F):=by
 have e:=list_tab (F:=fun i=>l.getD i 0==49) hl (by
  intro i hi
  have e:l.getD i 0=l[i]:=by simp [List.getD,hi]
  show l[i]=sgn (l.getD i 0==49)
  rw [e]
  rcases h l[i] (List.getElem_mem hi) with h1|h1
  ·rw [h1];rfl
  ·rw [h1];rfl)
 exact ⟨_,congrArg bs e⟩
/-- What stands while a table is drawn: the cursor, the result's box, the bytes so far. -/
structure DT (w:World) (b:Nat) (a:Option Addr) (len cap:Nat) (v:Value) (k:Nat) (W:World):Prop where
 cur:Cur W b a len cap
 res:Lay W w.heap.size (.int .i64 0) (.string ByteArray.empty)
 own:∃ l:List UInt8,(l.length=k/\Sgs l)/\Owu W (w.heap.size+1) v l
 siz:w.heap.size+1<=W.heap.size
 onl:Only b w W
theorem kept_of_only {b:Nat} {W W':World} (h:Only b W W'):Kept (fun x=>x=b) W W':=⟨h.os,h.tape,h.output,h.size,h.block⟩
theorem DT.only {w W W':World} {b:Nat} {a:Option Addr} {len cap:Nat} {v:Value} {k:Nat} (h:DT w b a len cap v k W) (hb:b < w.heap.size) (hc:Cur W' b a len cap) (ho:Only b W W'):DT w b a len cap v k W':=by
 obtain ⟨l,h1,h2⟩:=h.own
 refine ⟨hc,h.res.kept (kept_of_only ho) (by omega),⟨l,h1,h2.kept (kept_of_only ho) (fun i hi e=>by have:=(h2.lt i hi).1;omega)⟩,by have:=ho.size;have:=h.siz;omega,h.onl.trans ho⟩
theorem only_app {b:Nat} {u W W':World} {v:Value} (h:Only b u W) (hk:Kept (fun k=>v.ownBlock=some k) W W') (hv:∀ k,v.ownBlock=some k->u.heap.size<=k):Only b u W' :=
 ⟨hk.os.trans h.os,hk.tape.trans h.tape,hk.output.trans h.output,Nat.le_trans h.size hk.size,fun i hi hb=>(hk.block i (Nat.lt_of_lt_of_le hi h.size) (fun e=>by have:=hv i e;omega)).trans (h.block i hi hb)⟩
theorem cur_kept {b:Nat} {W W':World} {a:Option Addr} {len cap:Nat} (h:Cur W b a len cap) {S:Nat->Prop} (hk:Kept S W W') (hb:¬ S b) (ha:len=0\/∀ x,a=some x->¬ S x.block):Cur W' b a len cap:=by
 have hl:=h.lt
 obtain ⟨i,hi,hc1⟩:=h.c1
 obtain ⟨q,hc2⟩:=h.c2
 refine ⟨by rw [hk.cell (p:=⟨b,0,none⟩) hl hb];exact h.c0,⟨i,hi,by rw [hk.cell (p:=⟨b,1,none⟩) hl hb];exact hc1⟩,⟨q,by rw [hk.cell (p:=⟨b,2,none⟩) hl hb];exact hc2⟩,by rw [hk.frozen (p:=⟨b,1,none⟩) hl hb];exact h.f1,by rw [hk.frozen (p:=⟨b,2,none⟩) hl hb];exact h.f2,⟨h.bytes.1,?_⟩,h.off⟩
 rcases h.bytes.2 with h0|⟨xb,xo,rfl,hc⟩
 ·exact .inl h0
 ·rcases ha with h0|ha
  ·exact .inl h0
  ·refine .inr ⟨xb,xo,rfl,fun i hi=>?_⟩
   obtain ⟨v,h1,h2,h3⟩:=hc i hi
   exact ⟨v,h1,h2,by rw [hk.cell (Dr0.lt_of_cell h3) (ha ⟨xb,xo,none⟩ rfl)];exact h3⟩
/-- The bytes that are drawn from lie in a block below B. -/
def Low (a:Option Addr) (len B:Nat):Prop:=len=0\/∀ x,a=some x->x.block < B
theorem low_of {W:World} {a:Option Addr} {len:Nat} (h:Bytes W a len):Low a len W.heap.size:=by
 rcases h.2 with h0|⟨xb,xo,rfl,hc⟩
 ·exact .inl h0
 ·by_cases h0:len=0
  ·exact .inl h0
  ·refine .inr fun x hx=>?_
   cases hx
   obtain ⟨v,_,_,h3⟩:=hc 0 (by omega)
   exact Dr0.lt_of_cell h3
theorem DT.next {w W W':World} {b:Nat} {a:Option Addr} {len cap:Nat} {v v':Value} {k k':Nat} {l':List UInt8} (h:DT w b a len cap v k W) (hb:b < w.heap.size) (hlo:Low a len w.heap.size) (hk:Kept (fun x=>v.ownBlock=some x) W W') (hl:l'.length=k'/\Sgs l') (ho:Owu W' (w.heap.size+1) v' l'):DT w b a len cap v' k' W':=by
 obtain ⟨l,h1,h2⟩:=h.own
 have hv:∀ x,v.ownBlock=some x->w.heap.size+1<=x:=fun x hx=>(h2.lt x hx).1
 refine ⟨cur_kept h.cur hk (fun e=>by have:=hv _ e;omega) ?_,h.res.kept hk (fun e=>by have:=hv _ e;omega),⟨l',hl,ho⟩,by have:=hk.size;have:=h.siz;omega,only_app h.onl hk (fun x hx=>by have:=hv x hx;omega)⟩
 rcases hlo with h0|h0
 ·exact .inl h0
 ·exact .inr fun x hx e=>by have:=h0 x hx;have:=hv _ e;omega
theorem sgn_lit (x:Int) (h:x=0\/x=1):∃ y:UInt8,IntKind.u8.wrap (48+x)=(y.toNat:Int)/\(48+x)=(y.toNat:Int):=by
 rcases h with rfl|rfl
 ·exact ⟨48,by decide,rfl⟩
 ·exact ⟨49,by decide,rfl⟩
theorem l06Table (w:World) (b:Nat) (a:Option Addr) (len cap:Nat) (n:Nat) (hn:n<=6) (hc:Cur w b a len cap) :
 Calls Try.prog 26 #[.pointer (some ⟨b,0,none⟩),.int .i64 (n:Int)] w fun e w'=>(∃ F:Nat->Bool,e=.returned (tv (n:Int) (bs (tab n F))))/\Cur w' b a len cap/\Only b w w':=by
 have HLO:Hid (Low a len w.heap.size):=low_of hc.bytes
 have hbl:b < w.heap.size:=hc.lt
 have HPW:Hid (∀ W,Calls Try.prog 51 #[.int .i64 (n:Int)] W fun e w'=>e=.returned (.int .i64 ((2 ^ n:Nat):Int))/\w'=W):=fun W=>sPow n W (by omega)
 have hp:1<=2 ^ n:=Nat.one_le_two_pow
 have hl:2 ^ n<=64:=Nat.pow_le_pow_right (n:=2) (by omega) hn
 obtain ⟨P,hPN⟩:∃ P,P=2 ^ n:=⟨_,rfl⟩
 rw [<- hPN] at HPW hp hl
 have HPN:Hid (P=2 ^ n):=hPN
 clear hPN
 have HD0:Hid (DT w b a len cap (.slice (some ⟨w.heap.size+1,0,none⟩) 0 0) 0 ((w.alloc (.cells #[.int .i64 0,.string ByteArray.empty] 26)).alloc (.cells #[] 5))):=by
  have h1:=Owu.lit (w.alloc (.cells #[.int .i64 0,.string ByteArray.empty] 26)) (w.heap.size+1) (by simp)
  refine ⟨(hc.alloc _).alloc _,(Lay.made _ _ _ _).alloc _,⟨[],⟨rfl,sgs_nil⟩,by simpa using h1⟩,by simp,((Only.refl _ _).alloc _).alloc _⟩
 clear hc
 go_enter Try.func26,Try.ntmps26
 go_wp2_with fail
 refine (Dr1.below _ b a len cap 4 (by omega) (by omega) HD0.out.cur).mono ?_
 rintro e w1 ⟨⟨wy,rfl,hy0,hy1⟩,hc1,ho1⟩
 have HD1:Hid (DT w b a len cap (.slice (some ⟨w.heap.size+1,0,none⟩) 0 0) 0 w1):=HD0.out.only hbl hc1 ho1
 clear hc1 ho1
 go_wp2_with fail
 go_loopw [5,7] (fun v i wr=>∃ k:Nat,k<=P/\i=.int .i64 k/\DT w b a len cap v k wr) (fun _ i _=>P - (intOf i).toNat)
 case atStart=>exact ⟨0,Nat.zero_le _,rfl,HD1.out⟩
 case round =>
  obtain ⟨k,hk,rfl,hdt⟩:=hrel
  have HD:Hid (DT w b a len cap u5 k wr):=hdt
  clear hdt
  by_cases hlt:k < P
  ·have hkz:(k:Int) < (P:Int):=by omega
   go_wp2_with (go_at_call 51;refine (HPW.out _).mono ?_;rintro e w' ⟨rfl,hw'⟩;have hw2:=hw'.symm;clear hw';subst hw2)
   refine (Dr1.below _ b a len cap 2 (by omega) (by omega) HD.out.cur).mono ?_
   rintro e w2 ⟨⟨x,rfl,hx0,hx1⟩,hc2,ho2⟩
   have HD2:Hid (DT w b a len cap u5 k w2):=HD.out.only hbl hc2 ho2
   clear hc2 ho2
   by_cases h0:wy=0
   ·have hw0:(wy==0)=true:=by rw [h0];rfl
    clear h0
    rcases (by omega:(k:Int) / 2 % 2=0\/(k:Int) / 2 % 2=1) with hx|hx
    ·have hx9:(48:Int)+(k:Int) / 2 % 2=48:=by omega
     obtain ⟨l,hll,hol⟩:=HD2.out.own
     have HLL:Hid (l.length=k):=hll.1
     have HSG:Hid (Sgs l):=hll.2
     have HO:Hid (Owu w2 (w.heap.size+1) u5 l):=hol
     have hsz:=HD2.out.siz
     clear hll hol
     go_wp2_with (at_builtin;go_must (refine app_byte _ rfl _ _ rfl (w.heap.size+1) u5 l (sgn _) _ (by first|exact show (49:Int)=((sgn true).toNat:Int) from rfl|exact show (48:Int)=((sgn false).toNat:Int) from rfl) rfl rfl HO.out hsz (by rw [HLL.out];omega) ?_;intro g5 cp5 w5 ho5 hk5 hg5;have HD5:Hid (DT w b a len cap (.slice (some ⟨g5,0,none⟩) (l.length+1) cp5) (k+1) w5):=HD2.out.next hbl HLO.out hk5 ⟨by rw [List.length_append,HLL.out];rfl,sgs_app HSG.out _⟩ ho5;clear ho5 hk5 hg5))
     go_roundw
     case rel=>exact ⟨k+1,by omega,by go_num,HD5.out⟩
     case measure=>simp [intOf];omega
    ·have hx9:(48:Int)+(k:Int) / 2 % 2=49:=by omega
     obtain ⟨l,hll,hol⟩:=HD2.out.own
     have HLL:Hid (l.length=k):=hll.1
     have HSG:Hid (Sgs l):=hll.2
     have HO:Hid (Owu w2 (w.heap.size+1) u5 l):=hol
     have hsz:=HD2.out.siz
     clear hll hol
     go_wp2_with (at_builtin;go_must (refine app_byte _ rfl _ _ rfl (w.heap.size+1) u5 l (sgn _) _ (by first|exact show (49:Int)=((sgn true).toNat:Int) from rfl|exact show (48:Int)=((sgn false).toNat:Int) from rfl) rfl rfl HO.out hsz (by rw [HLL.out];omega) ?_;intro g5 cp5 w5 ho5 hk5 hg5;have HD5:Hid (DT w b a len cap (.slice (some ⟨g5,0,none⟩) (l.length+1) cp5) (k+1) w5):=HD2.out.next hbl HLO.out hk5 ⟨by rw [List.length_append,HLL.out];rfl,sgs_app HSG.out _⟩ ho5;clear ho5 hk5 hg5))
     go_roundw
     case rel=>exact ⟨k+1,by omega,by go_num,HD5.out⟩
     case measure=>simp [intOf];omega
   ·have hw0:(wy==0)=false:=beq_eq_false_iff_ne.2 h0
    by_cases h1:wy=1
    ·have hw1:(wy==1)=true:=by rw [h1];rfl
     clear h0 h1
     rcases (by omega:x=0\/x=1) with rfl|rfl
     all_goals
      go_wp2_with fail
      refine (Dr1.once _ b a len cap 2 (by omega) (by omega) HD2.out.cur).mono ?_
      rintro e w3 ⟨⟨z,rfl⟩,hc3,ho3⟩
      have HD3:Hid (DT w b a len cap u5 k w3):=HD2.out.only hbl hc3 ho3
      clear hc3 ho3
      cases z
      all_goals
       obtain ⟨l,hll,hol⟩:=HD3.out.own
       have HLL:Hid (l.length=k):=hll.1
       have HSG:Hid (Sgs l):=hll.2
       have HO:Hid (Owu w3 (w.heap.size+1) u5 l):=hol
       have hsz:=HD3.out.siz
       clear hll hol
       go_wp2_with (at_builtin;go_must (refine app_byte _ rfl _ _ rfl (w.heap.size+1) u5 l (sgn _) _ (by first|exact show (49:Int)=((sgn true).toNat:Int) from rfl|exact show (48:Int)=((sgn false).toNat:Int) from rfl) rfl rfl HO.out hsz (by rw [HLL.out];omega) ?_;intro g5 cp5 w5 ho5 hk5 hg5;have HD5:Hid (DT w b a len cap (.slice (some ⟨g5,0,none⟩) (l.length+1) cp5) (k+1) w5):=HD3.out.next hbl HLO.out hk5 ⟨by rw [List.length_append,HLL.out];rfl,sgs_app HSG.out _⟩ ho5;clear ho5 hk5 hg5))
       go_roundw
       case rel=>exact ⟨k+1,by omega,by go_num,HD5.out⟩
       case measure=>simp [intOf];omega
    ·have hw1:(wy==1)=false:=beq_eq_false_iff_ne.2 h1
     clear h0 h1
     rcases (by omega:x=0\/x=1) with rfl|rfl
     all_goals
      obtain ⟨l,hll,hol⟩:=HD2.out.own
      have HLL:Hid (l.length=k):=hll.1
      have HSG:Hid (Sgs l):=hll.2
      have HO:Hid (Owu w2 (w.heap.size+1) u5 l):=hol
      have hsz:=HD2.out.siz
      clear hll hol
      go_wp2_with (at_builtin;go_must (refine app_byte _ rfl _ _ rfl (w.heap.size+1) u5 l (sgn _) _ (by first|exact show (49:Int)=((sgn true).toNat:Int) from rfl|exact show (48:Int)=((sgn false).toNat:Int) from rfl) rfl rfl HO.out hsz (by rw [HLL.out];omega) ?_;intro g5 cp5 w5 ho5 hk5 hg5;have HD5:Hid (DT w b a len cap (.slice (some ⟨g5,0,none⟩) (l.length+1) cp5) (k+1) w5):=HD2.out.next hbl HLO.out hk5 ⟨by rw [List.length_append,HLL.out];rfl,sgs_app HSG.out _⟩ ho5;clear ho5 hk5 hg5))
      go_roundw
      case rel=>exact ⟨k+1,by omega,by go_num,HD5.out⟩
      case measure=>simp [intOf];omega
  ·have hkP:k=P:=by omega
   have HDP:Hid (DT w b a len cap u5 P wr):=by have h:=HD.out;rw [hkP] at h;exact h
   have hkz:¬ (k:Int) < (P:Int):=by omega
   clear hkP HD
   go_wp2_with (go_at_call 51;refine (HPW.out _).mono ?_;rintro e w' ⟨rfl,hw'⟩;have hw2:=hw'.symm;clear hw';subst hw2)
   refine (Dr1.once _ b a len cap 8 (by omega) (by omega) HDP.out.cur).mono ?_
   rintro e w3 ⟨⟨z,rfl⟩,hc3,ho3⟩
   have HD3:Hid (DT w b a len cap u5 P w3):=HDP.out.only hbl hc3 ho3
   clear hc3 ho3
   obtain ⟨l,⟨hll,hls⟩,hol⟩:=HD3.out.own
   obtain ⟨g,c,hv,hgB,hgl⟩:=hol.at (by omega)
   subst hll
   subst hv
   clear hol
   cases z
   ·obtain ⟨l3,⟨hl3,hg3⟩,ho3⟩:=HD3.out.own
    have hcv:=ho3.text (by omega)
    obtain ⟨r0,r1,r2,r3⟩:=HD3.out.res
    have HS3:Hid (∃ F:Nat->Bool,bs l3=bs (tab n F)):=sgs_tab (by rw [hl3];exact HPN.out) hg3
    have HC3:Hid (Cur w3 b a len cap):=HD3.out.cur
    have HON:Hid (Only b w w3):=HD3.out.onl
    have HL3:Hid (Lay w3 w.heap.size (.int .i64 0) (.string ByteArray.empty)):=HD3.out.res
    generalize bs l3=RS at *
    clear ho3
    go_wp2
    have K:Kept (fun x=>x=w.heap.size) w3 ((w3.setCell ⟨w.heap.size,0,none⟩ (.int .i64 (n:Int))).setCell ⟨w.heap.size,1,none⟩ (.string RS)):=kset (S:=fun x=>x=w.heap.size) (kset (S:=fun x=>x=w.heap.size) (Kept.refl (fun x=>x=w.heap.size) w3) rfl _) rfl _
    have hz:=HL3.out.put (.int .i64 (n:Int)) (.string RS)
    have hcc:=cur_kept HC3.out K (by omega) (HLO.out.imp id fun h x hx=>by have:=h x hx;omega)
    have hoo:Only b w ((w3.setCell ⟨w.heap.size,0,none⟩ (.int .i64 (n:Int))).setCell ⟨w.heap.size,1,none⟩ (.string RS)):=⟨K.os.trans HON.out.os,K.tape.trans HON.out.tape,K.output.trans HON.out.output,Nat.le_trans HON.out.size K.size,fun i hi hb=>(K.block i (Nat.lt_of_lt_of_le hi HON.out.size) (by omega)).trans (HON.out.block i hi hb)⟩
    obtain ⟨z0,z1,_,_⟩:=hz
    generalize (w3.setCell ⟨w.heap.size,0,none⟩ (.int .i64 (n:Int))).setCell ⟨w.heap.size,1,none⟩ (.string RS)=WF at *
    exact bodyPost_ret (v:=tv (n:Int) RS) (by simp [results,Try.results26,go_sem,z0,z1]) rfl ⟨(by obtain ⟨F,hF⟩:=HS3.out;exact ⟨F,by rw [<- hF]⟩),hcc,hoo⟩
   ·go_wp2_with fail
    go_loopw [9] (fun i wq=>∃ j:Nat,j<=l.length/\i=.int .i64 j/\DT w b a len cap (.slice (some ⟨g,0,none⟩) l.length c) l.length wq) (fun i _=>l.length - (intOf i).toNat)
    case atStart=>exact ⟨0,Nat.zero_le _,rfl,HD3.out⟩
    case round =>
     obtain ⟨j,hj,rfl,hdq⟩:=hrel
     have HQ:Hid (DT w b a len cap (.slice (some ⟨g,0,none⟩) l.length c) l.length wr):=hdq
     clear hdq
     by_cases hjl:j < l.length
     ·have hjz:(j:Int) < (l.length:Int):=by omega
      obtain ⟨l2,⟨hl2,hg2⟩,ho2⟩:=HQ.out.own
      obtain ⟨v0,v1⟩:=ho2.cell' hl2 j hjl
      have HW2:Hid (DT w b a len cap (.slice (some ⟨g,0,none⟩) l.length c) l.length (wr.setCell ⟨g,j,none⟩ (.int .u8 49))) :=
       HQ.out.next hbl HLO.out (kset (S:=fun x=>(Value.slice (some ⟨g,0,none⟩) l.length c).ownBlock=some x) (Kept.refl _ wr) (by simp [Value.ownBlock]) _) ⟨by rw [List.length_set];exact hl2,sgs_set hg2 j⟩ (ho2.set' hl2 j 49)
      clear ho2
      go_wp2
      go_roundw
      case rel=>exact ⟨j+1,by omega,by go_num,HW2.out⟩
      case measure=>simp [intOf];omega
     ·have hjz:¬ (j:Int) < (l.length:Int):=by omega
      obtain ⟨l3,⟨hl3,hg3⟩,ho3⟩:=HQ.out.own
      have hcv:=ho3.text (by omega)
      obtain ⟨r0,r1,r2,r3⟩:=HQ.out.res
      have HS3:Hid (∃ F:Nat->Bool,bs l3=bs (tab n F)):=sgs_tab (by rw [hl3];exact HPN.out) hg3
      have HC3:Hid (Cur wr b a len cap):=HQ.out.cur
      have HON:Hid (Only b w wr):=HQ.out.onl
      have HL3:Hid (Lay wr w.heap.size (.int .i64 0) (.string ByteArray.empty)):=HQ.out.res
      generalize bs l3=RS at *
      clear ho3
      go_wp2
      have K:Kept (fun x=>x=w.heap.size) wr ((wr.setCell ⟨w.heap.size,0,none⟩ (.int .i64 (n:Int))).setCell ⟨w.heap.size,1,none⟩ (.string RS)):=kset (S:=fun x=>x=w.heap.size) (kset (S:=fun x=>x=w.heap.size) (Kept.refl (fun x=>x=w.heap.size) wr) rfl _) rfl _
      have hz:=HL3.out.put (.int .i64 (n:Int)) (.string RS)
      have hcc:=cur_kept HC3.out K (by omega) (HLO.out.imp id fun h x hx=>by have:=h x hx;omega)
      have hoo:Only b w ((wr.setCell ⟨w.heap.size,0,none⟩ (.int .i64 (n:Int))).setCell ⟨w.heap.size,1,none⟩ (.string RS)):=⟨K.os.trans HON.out.os,K.tape.trans HON.out.tape,K.output.trans HON.out.output,Nat.le_trans HON.out.size K.size,fun i hi hb=>(K.block i (Nat.lt_of_lt_of_le hi HON.out.size) (by omega)).trans (HON.out.block i hi hb)⟩
      obtain ⟨z0,z1,_,_⟩:=hz
      generalize (wr.setCell ⟨w.heap.size,0,none⟩ (.int .i64 (n:Int))).setCell ⟨w.heap.size,1,none⟩ (.string RS)=WF at *
      exact bodyPost_ret (v:=tv (n:Int) RS) (by simp [results,Try.results26,go_sem,z0,z1]) rfl ⟨(by obtain ⟨F,hF⟩:=HS3.out;exact ⟨F,by rw [<- hF]⟩),hcc,hoo⟩
end Tdw
namespace Ddr
open Go.RowKit
open Ta0 Ta1 Tc2 Tc5 Td2 Tdw Ap1
open Nd0 (Kept set_same)
open Nd6 (Bools)
open Dr0 (Cur Only Bytes)
open Ss0 (bs bs_size)
/-- What stands while a row is drawn: the cursor, the flags so far. -/
structure DB (w:World) (b:Nat) (a:Option Addr) (len cap:Nat) (v:Value) (k:Nat) (W:World):Prop where
 cur:Cur W b a len cap
 own:∃ l:List Bool,l.length=k/\Owb W w.heap.size v l
 siz:w.heap.size<=W.heap.size
 onl:Only b w W
theorem DB.only {w W W':World} {b:Nat} {a:Option Addr} {len cap:Nat} {v:Value} {k:Nat} (h:DB w b a len cap v k W) (hb:b < w.heap.size) (hc:Cur W' b a len cap) (ho:Only b W W'):DB w b a len cap v k W':=by
 obtain ⟨l,h1,h2⟩:=h.own
 exact ⟨hc,⟨l,h1,h2.kept (kept_of_only ho) (fun i hi e=>by have:=(h2.lt i hi).1;omega)⟩,by have:=ho.size;have:=h.siz;omega,h.onl.trans ho⟩
theorem DB.next {w W W':World} {b:Nat} {a:Option Addr} {len cap:Nat} {v v':Value} {k k':Nat} {l':List Bool} (h:DB w b a len cap v k W) (hb:b < w.heap.size) (hlo:Low a len w.heap.size) (hk:Kept (fun x=>v.ownBlock=some x) W W') (hl:l'.length=k') (ho:Owb W' w.heap.size v' l'):DB w b a len cap v' k' W':=by
 obtain ⟨l,h1,h2⟩:=h.own
 have hv:∀ x,v.ownBlock=some x->w.heap.size<=x:=fun x hx=>(h2.lt x hx).1
 refine ⟨cur_kept h.cur hk (fun e=>by have:=hv _ e;omega) ?_,⟨l',hl,ho⟩,by have:=hk.size;have:=h.siz;omega,only_app h.onl hk (fun x hx=>by have:=hv x hx;omega)⟩
 rcases hlo with h0|h0
 ·exact .inl h0
 ·exact .inr fun x hx e=>by have:=h0 x hx;have:=hv _ e;omega
theorem l08Row (w:World) (b:Nat) (a:Option Addr) (len cap:Nat) (n:Nat) (hn:n<=100) (hc:Cur w b a len cap) :
 Calls Try.prog 25 #[.pointer (some ⟨b,0,none⟩),.int .i64 (n:Int)] w fun e w'=>(∃ v,e=.returned v/\DB w b a len cap v n w'):=by
 have HLO:Hid (Low a len w.heap.size):=low_of hc.bytes
 have hbl:b < w.heap.size:=hc.lt
 have HD0:Hid (DB w b a len cap (.slice (some ⟨w.heap.size,0,none⟩) 0 0) 0 (w.alloc (.cells #[] 4))) :=
  ⟨hc.alloc _,⟨[],rfl,Owb.lit w _ (Nat.le_refl _)⟩,by simp,(Only.refl _ _).alloc _⟩
 clear hc
 go_enter Try.func25,Try.ntmps25
 go_wp2
 go_loopw [5,6] (fun v i wr=>∃ k:Nat,k<=n/\i=.int .i64 k/\DB w b a len cap v k wr) (fun _ i _=>n - (intOf i).toNat)
 case atStart=>exact ⟨0,Nat.zero_le _,rfl,HD0.out⟩
 case round =>
  obtain ⟨k,hk,rfl,hdt⟩:=hrel
  have HD:Hid (DB w b a len cap u5 k wr):=hdt
  clear hdt
  by_cases hlt:k < n
  ·have hkz:(k:Int) < (n:Int):=by omega
   go_wp2_with fail
   refine (Dr1.once _ b a len cap 2 (by omega) (by omega) HD.out.cur).mono ?_
   rintro e w3 ⟨⟨z,rfl⟩,hc3,ho3⟩
   have HD3:Hid (DB w b a len cap u5 k w3):=HD.out.only hbl hc3 ho3
   clear hc3 ho3
   obtain ⟨l,hll,hol⟩:=HD3.out.own
   have HLL:Hid (l.length=k):=hll
   have HO:Hid (Owb w3 w.heap.size u5 l):=hol
   have hsz:=HD3.out.siz
   clear hll hol
   go_wp2_with (at_builtin;go_must (refine app_bool _ rfl _ _ rfl w.heap.size u5 l z rfl rfl HO.out hsz (by rw [HLL.out];omega) ?_;intro g5 cp5 w5 ho5 hk5 hg5;have HD5:Hid (DB w b a len cap (.slice (some ⟨g5,0,none⟩) (l.length+1) cp5) (k+1) w5):=HD3.out.next hbl HLO.out hk5 (by rw [List.length_append,HLL.out];rfl) ho5;clear ho5 hk5 hg5))
   go_roundw
   case rel=>exact ⟨k+1,by omega,by go_num,HD5.out⟩
   case measure=>simp [intOf];omega
  ·have HKN:Hid (DB w b a len cap u5 n wr):=by have h:=HD.out;rw [show k=n by omega] at h;exact h
   clear HD
   go_wp2
   go_ret
   exact ⟨_,rfl,HKN.out⟩
theorem owb_cap {w:World} {B:Nat} {v:Value} {l:List Bool} (h:Owb w B v l):∃ a c,v=.slice a l.length c/\l.length<=c/\WBools w B a l:=by
 obtain ⟨a,c,hv,hw⟩:=h.form
 rcases h.2 with ⟨h1,h0⟩|⟨g,cap,cur,h1,_,_,hn,_⟩
 ·exact ⟨_,_,hv,by omega,hw⟩
 ·rw [hv] at h1
  injection h1 with e1 e2 e3
  exact ⟨_,_,hv,by omega,hw⟩
theorem drawCase (w:World) (a:Option Addr) (len cap:Nat) (hb:Bytes w a len) :
 Calls Try.prog 6 #[.slice a len cap] w fun e w'=>(∃ (n:Nat) (F:Nat->Bool) (row:List Bool) (ra:Option Addr) (c:Nat),n<=6/\row.length=n/\n<=c/\e=.returned (.tuple #[.slice ra n c,tv (n:Int) (bs (tab n F))])/\Bools w' ra row)/\Below w.heap.size w w':=by
 have HB0:Hid (Bytes (w.alloc (.cells #[.int .i64 0,.string ByteArray.empty] 26)) a len):=hb.below ((Below.refl _ _).alloc (Nat.le_refl _) _)
 clear hb
 go_enter Try.func6,Try.ntmps6
 go_wp2_with fail
 refine (Dr4.new _ a len cap HB0.out).mono ?_
 rintro e w1 ⟨rfl,hc1,hb1⟩
 have HR1:Hid (Lay w1 w.heap.size (.int .i64 0) (.string ByteArray.empty)):=(Lay.made w _ _ _).below hb1
 have HB1:Hid (Below w.heap.size w w1):=((Below.refl _ _).alloc (Nat.le_refl _) _).trans (hb1.mono (by simp))
 have hc1':Cur w1 (w.heap.size+1) a len cap:=by simpa using hc1
 clear hb1 hc1
 have hsz1:w.heap.size<=w1.heap.size:=HB1.out.size
 go_wp2_with fail
 refine (Dr1.below _ (w.heap.size+1) a len cap 7 (by omega) (by omega) hc1').mono ?_
 rintro e w2 ⟨⟨x,rfl,hx0,hx1⟩,hc2,ho2⟩
 obtain ⟨n,rfl⟩:=Int.eq_ofNat_of_zero_le hx0
 have hn:n<=6:=by omega
 have HR2:Hid (Lay w2 w.heap.size (.int .i64 0) (.string ByteArray.empty)):=HR1.out.kept (kept_of_only ho2) (by omega)
 have HB2:Hid (Below w.heap.size w w2):=HB1.out.trans (ho2.below (by omega) HB1.out.size)
 have hb2:w.heap.size+1 < w2.heap.size:=hc2.lt
 clear ho2 hc1' HR1 HB1 hx0 hx1
 go_wp2_with fail
 refine (l08Row _ (w.heap.size+1) a len cap n (by omega) hc2).mono ?_
 rintro e w3 ⟨v,rfl,hd3⟩
 have HR3:Hid (Lay w3 w.heap.size (.int .i64 0) (.string ByteArray.empty)):=HR2.out.kept (kept_of_only hd3.onl) (by omega)
 have HB3:Hid (Below w.heap.size w w3):=HB2.out.trans (hd3.onl.below (by omega) HB2.out.size)
 obtain ⟨row,hrl,hor⟩:=hd3.own
 have HOR:Hid (Owb w3 w2.heap.size v row):=hor
 have HC3:Hid (Cur w3 (w.heap.size+1) a len cap):=hd3.cur
 clear hd3 hc2 HR2 HB2 hor
 go_wp2_with fail
 refine (Tdw.l06Table _ (w.heap.size+1) a len cap n hn HC3.out).mono ?_
 rintro e w4 ⟨⟨F,rfl⟩,hc4,ho4⟩
 have HR4:Hid (Lay w4 w.heap.size (.int .i64 0) (.string ByteArray.empty)):=HR3.out.kept (kept_of_only ho4) (by omega)
 have HB4:Hid (Below w.heap.size w w4):=HB3.out.trans (ho4.below (by omega) HB3.out.size)
 have HO4:=HOR.out.kept (kept_of_only ho4) (fun i hi e=>by have:=(HOR.out.lt i hi).1;omega)
 obtain ⟨ra,c,rfl,hcp,hwb⟩:=owb_cap HO4
 have HWB:Hid (WBools w4 w2.heap.size ra row):=hwb
 have HRL:Hid (row.length=n/\n<=c):=⟨hrl,by omega⟩
 clear hc4 ho4 HO4 hwb HOR HC3 HR3 HB3
 rw [hrl]
 clear hcp hrl
 generalize hS:bs (tab n F)=S at *
 have HS:Hid (bs (tab n F)=S):=hS
 clear hS
 obtain ⟨r0,r1,r2,r3⟩:=HR4.out
 have HFN:Hid _:=finT HR4.out HB4.out (Nat.le_refl _) (.int .i64 (n:Int)) (.string S)
 have HK:Hid (Kept (fun b=>b=w.heap.size) w4 ((w4.setCell ⟨w.heap.size,0,none⟩ (.int .i64 (n:Int))).setCell ⟨w.heap.size,1,none⟩ (.string S))):=kset (S:=fun b=>b=w.heap.size) (kset (S:=fun b=>b=w.heap.size) (Kept.refl (fun b=>b=w.heap.size) w4) rfl _) rfl _
 go_wp2
 obtain ⟨W,hW,hz,hbz⟩:=HFN.out
 have hK:=HK.out
 rw [<- hW] at hK ⊢
 obtain ⟨z0,z1,_,_⟩:=hz
 refine bodyPost_ret (v:=.tuple #[.slice ra n c,tv (n:Int) S]) (by simp [results,Try.results6,go_sem,z0,z1]) rfl ⟨⟨n,F,row,ra,c,hn,HRL.out.1,HRL.out.2,by rw [HS.out],?_⟩,hbz⟩
 exact (((Nd6.WBools.within HWB.out).kept hK (fun b h1 _ e=>by omega)).plain)
end Ddr
end Go.Proofs.Ytfhdbcfhhbdiiaa
