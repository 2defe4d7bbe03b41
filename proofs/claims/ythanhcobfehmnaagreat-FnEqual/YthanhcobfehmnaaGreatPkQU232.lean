import Derived.Deep.CutBlock
import Derived.Test.YthanhcobfehmnaaGreatPkQU220
import Derived.Test.YthanhcobfehmnaaGreatPkQU231
namespace Go.Proofs.YthanhcobfehmnaaGreat
set_option maxRecDepth 100000
set_option maxHeartbeats 8000000
set_option linter.unusedVariables false
namespace Pb9
open Go.RowKit
open Nd0 Nd3 Tm0 Tm8 Aq0 Aq2 Aq12 Ar0 Pb3
open Ap2 (Own)
open Qa0 Qi0
open Lx1 (ITermOk)
open Pb8 (iFirst)
theorem closed_no {w W:World} {l:List Nd} (h:clB l=false/\clL l=[]) (hB:Below w.heap.size w W) (g:Nat) :
 (∃ a' c',Ending.returned (.tuple #[.slice (some ⟨g,0,none⟩) 0 0,.bool false])=.returned (.tuple #[.slice a' (clL l).length c',.bool (clB l)])/\WNodes (W.alloc (.cells #[] 44)) w.heap.size a' (clL l)/\(clL l).length<=c')/\Below w.heap.size w (W.alloc (.cells #[] 44)):=by
 rw [h.1,h.2]
 exact ⟨⟨_,_,rfl,⟨Nat.zero_le _,.inl rfl⟩,Nat.zero_le _⟩,hB.alloc hB.size _⟩
theorem iCloseAll (hTO:ITermOk) (w:World) (a:Option Addr) (l:List Nd) (c:Nat) (hN:Nodes w a l) (hcap:l.length<=c) :
 Calls Tryz.prog 39 #[.slice a l.length c] w fun e w'=>(∃ a' c',e=.returned (.tuple #[.slice a' (clL l).length c',.bool (clB l)])/\WNodes w' w.heap.size a' (clL l)/\(clL l).length<=c')/\Below w.heap.size w w':=by
 have HN:Hid (Nodes w a l):=hN
 have HTO:Hid ITermOk:=hTO
 have HCAP:Hid (l.length<=c):=hcap
 clear hcap hN hTO
 go_enter Tryz.func39,Tryz.ntmps39
 go_wp2_with fail
 refine (iTO HTO.out _ _ l c HN.out HCAP.out).mono ?_
 rintro e w1 ⟨rfl,hb1⟩
 have HB1:Hid (Below w.heap.size w w1):=hb1
 have hs1:=hb1.size
 clear hb1
 cases hT:termOk l
 ·have HE:Hid (clB l=false/\clL l=[]):=cl_term hT
  go_wp2
  go_ret2
  exact closed_no HE.out HB1.out _
 ·have HT:Hid (termOk l=true):=hT
  obtain ⟨hl1,hl2⟩:=term_len hT
  clear hT
  have HN1:Hid (Nodes w1 a l):=HN.out.below HB1.out
  rcases HN1.out.2 with h0|⟨b,o,rfl,hc⟩
  ·omega
  obtain ⟨-,p1, -, -, -, -⟩:=hc (l.length - 1) (by omega)
  rw [nth_get (by omega)] at p1
  have HBL:Hid (b < w.heap.size):=by
   rcases HN.out.2 with h0|⟨b',o',he,hc'⟩
   ·omega
   ·cases he;exact (hc' 0 (by omega)).lt
  clear hc
  have g1:(0:Int)<=(l.length:Int) - 1:=by omega
  have g2:(l.length:Int) - 1 < (l.length:Int):=by omega
  obtain ⟨z,hz⟩:∃ z:Int,z=(nth l (l.length - 1)).w:=⟨_,rfl⟩
  rw [<- hz] at p1
  cases hw:(z==1)
  ·have HE:Hid (clB l=false/\clL l=[]):=cl_wid (by rw [<- hz];exact hw)
   have hne:(z != 1)=true:=by simpa using hw
   clear hw hz
   go_wp2
   go_ret2
   exact closed_no HE.out HB1.out _
  ·have HE:Hid (clB l=termOk (clAll l)/\clL l=if termOk (clAll l) then clAll l else []):=cl_all HT.out (by rw [<- hz];exact hw)
   have hne:(z != 1)=false:=by simpa using hw
   clear hw hz
   obtain ⟨W1,hW1⟩:∃ W1:World,W1=w1.alloc (.cells #[] 44):=⟨_,rfl⟩
   have HQ1:Hid (Own W1 w1.heap.size (.slice (some ⟨w1.heap.size,0,none⟩) 0 0) []):=by rw [hW1];exact Ap2.Own.lit w1 _ (Nat.le_refl _)
   have hb1:Below w1.heap.size w1 W1:=by rw [hW1];exact (Below.refl _ _).alloc (Nat.le_refl _) _
   have HBW:Hid (Below w.heap.size w W1):=HB1.out.trans (hb1.mono hs1)
   have HNW:Hid (Nodes W1 (some ⟨b,o,none⟩) l):=HN1.out.below hb1
   have hsw:w1.heap.size < W1.heap.size:=by rw [hW1];simp
   clear hb1
   go_upto_region 4 with fail
   rw [<- hW1]
   clear hW1 p1
   obtain ⟨q0,hq0⟩:∃ q0:Nat,q0=w1.heap.size:=⟨_,rfl⟩
   rw [<- hq0] at HQ1 hsw ⊢
   have HQ0:Hid (w.heap.size<=q0):=by show _<=_;omega
   clear hq0 hs1
   go_wp2_with fail
   refine (iFirst W1 _ l c HNW.out HT.out).mono ?_
   rintro e w2 ⟨⟨f,rfl,hf⟩,hb2⟩
   have HFF:Hid (∀ v,v < 8->f v=ffTop l v):=hf
   have HB2:Hid (Below w.heap.size w w2):=HBW.out.trans (hb2.mono HBW.out.size)
   have HN2:Hid (Nodes w2 (some ⟨b,o,none⟩) l):=HNW.out.below hb2
   have HQ2:Hid (Own w2 q0 (.slice (some ⟨q0,0,none⟩) 0 0) []):=HQ1.out.kept (S:=fun _=>False) (Kept.ofBelow hb2) (fun _ _ h=>h)
   have hs2:q0 < w2.heap.size:=by have:=hb2.size;omega
   clear hf hb2 HBW HNW HQ1 hsw
   obtain ⟨W2,hW2⟩:∃ W2:World,W2=w2.alloc (.cells #[.int .i64 (f 0),.int .i64 (f 1),.int .i64 (f 2),.int .i64 (f 3),.int .i64 (f 4),.int .i64 (f 5),.int .i64 (f 6),.int .i64 (f 7)] 47):=⟨_,rfl⟩
   have hb3:Below w2.heap.size w2 W2:=by rw [hW2];exact (Below.refl _ _).alloc (Nat.le_refl _) _
   have HB3:Hid (Below w.heap.size w W2):=HB2.out.trans (hb3.mono HB2.out.size)
   have HN3:Hid (Nodes W2 (some ⟨b,o,none⟩) l):=HN2.out.below hb3
   have HQ3:Hid (Own W2 q0 (.slice (some ⟨q0,0,none⟩) 0 0) []):=HQ2.out.kept (S:=fun _=>False) (Kept.ofBelow hb3) (fun _ _ h=>h)
   have HA3:Hid (ArAt W2 w2.heap.size 0 f):=by rw [hW2];exact ⟨by simp,by simp,by simp,by simp,by simp,by simp,by simp,by simp⟩
   clear hb3 HB2 HN2 HQ2
   go_upto_region 5 with fail
   rw [<- hW2]
   clear hW2
   obtain ⟨F,hF⟩:∃ F:Nat,F=w2.heap.size:=⟨_,rfl⟩
   rw [<- hF] at HA3 hs2 ⊢
   clear hF
   go_wp2_with fail
   go_loopw [4,6] (fun qv i wr=>∃ k g cp:Nat,k<=8/\i=.int .i64 (7 - (k:Int))/\qv=.slice (some ⟨g,0,none⟩) (clTo l k).length cp/\Own wr q0 (.slice (some ⟨g,0,none⟩) (clTo l k).length cp) (clTo l k)/\g≠F/\ArAt wr F 0 f/\Nodes wr (some ⟨b,o,none⟩) l/\Below w.heap.size w wr) (fun _ i _=>(intOf i+1).toNat)
   case atStart=>exact ⟨0,q0,0,by omega,rfl,rfl,HQ3.out,by omega,HA3.out,HN3.out,HB3.out⟩
   case round =>
    clear HQ3 HA3 HN3 HB3
    obtain ⟨k,g,cp,hk,rfl,rfl,ho,hne2,ha,hn,hb⟩:=hrel
    obtain ⟨wb,rfl⟩:∃ wb:World,wb=wr:=⟨_,rfl⟩
    have HO:Hid (Own wb q0 (.slice (some ⟨g,0,none⟩) (clTo l k).length cp) (clTo l k)):=ho
    have HNE:Hid (g≠F):=hne2
    have HA:Hid (ArAt wb F 0 f):=ha
    have HNB:Hid (Nodes wb (some ⟨b,o,none⟩) l):=hn
    have HBB:Hid (Below w.heap.size w wb):=hb
    have hqb:q0<=wb.heap.size:=by have h1:=(ho.lt g rfl).1;have h2:=(ho.lt g rfl).2;omega
    have hcl:=clTo_le l k
    have HGB:Hid (g≠b):=fun e=>by have h1:=(ho.lt g rfl).1;have h2:=HQ0.out;have h3:=HBL.out;omega
    clear ho hne2 ha hn hb
    by_cases hk8:k < 8
    ·have hkz:(0:Int)<=7 - (k:Int):=by omega
     obtain ⟨v,hv⟩:∃ v:Nat,v=7 - k:=⟨_,rfl⟩
     have hv8:v < 8:=by omega
     have e7:7 - (k:Int)=(v:Int):=by omega
     have hvz:(v:Int) < 8:=by omega
     have hv0:(0:Int)<=(v:Int):=by omega
     have p0:=HA.out.at hv8
     rw [Nat.zero_add,HFF.out v hv8] at p0
     rw [e7]
     have HVK:Hid (v=7 - k):=hv
     have HV7:Hid (7 - (k:Int)=(v:Int)):=e7
     clear hv e7
     by_cases h80:ffTop l v=80
     ·have HCL:Hid (clTo l (k+1)=clTo l k):=clTo_skip (by rw [<- HVK.out];exact h80)
      rw [h80] at p0
      clear h80
      go_wp2_with fail
      go_roundw
      case rel=>exact ⟨k+1,g,cp,by omega,by have h7:=HV7.out;congr 1;omega,by rw [HCL.out],by rw [HCL.out];exact HO.out,HNE.out,HA.out,HNB.out,HBB.out⟩
      case measure=>first|(simp [intOf];omega)|simp [intOf]
     ·have HCL:Hid (clTo l (k+1)=clTo l k++[clN v ((l.length:Int)+((clTo l k).length:Int) - 1) (widL l v)]):=by
       have:=clTo_more (l:=l) (k:=k) (by rw [<- HVK.out];exact h80)
       rw [<- HVK.out] at this
       exact this
      obtain ⟨j,hj1,hj2,hj3⟩:=wid_ff (down_of HT.out) v hl1 hl2 h80
      rw [hj1] at p0
      have hj80:((j:Int)==80)=false:=by simp;omega
      have hjz:(j:Int) < (l.length:Int):=by omega
      have hj0:(0:Int)<=(j:Int):=by omega
      rcases HNB.out.2 with h0|⟨b',o',he,hc⟩
      ·omega
      obtain ⟨rfl,rfl⟩:b=b'/\o=o':=by cases he;exact ⟨rfl,rfl⟩
      obtain ⟨-,p1, -, -, -, -⟩:=hc j hj2
      rw [nth_get hj2,<- hj3] at p1
      clear hc he h80 hj1 hj3
      generalize widL l v=u at p1 HCL
      obtain ⟨Q,hQ⟩:∃ Q,Q=clTo l k:=⟨_,rfl⟩
      rw [<- hQ] at HO HCL hcl ⊢
      clear hQ
      go_wp2_with fail
      refine (iNewQ true (v:Int) u _).mono ?_
      rintro e w' ⟨rfl,hw'⟩
      have hw2:=hw'.symm
      clear hw'
      subst hw2
      go_wp2_with fail
      refine (iNodeOf ⟨true,(v:Int),u⟩ _ _).mono ?_
      rintro e w5 ⟨rfl,hb5⟩
      have HO5:Hid (Own w5 q0 (.slice (some ⟨g,0,none⟩) Q.length cp) Q):=HO.out.kept (S:=fun _=>False) (Kept.ofBelow hb5) (fun _ _ h=>h)
      have HA5:Hid (ArAt w5 F 0 f):=HA.out.below hb5 HA.out.lt
      have HN5:Hid (Nodes w5 (some ⟨b,o,none⟩) l):=HNB.out.below hb5
      have HB5:Hid (Below w.heap.size w w5):=HBB.out.trans (hb5.mono HBB.out.size)
      have hq5:q0<=w5.heap.size:=by have:=hb5.size;omega
      clear hb5 HO HA HNB HBB p0 p1
      have hQz:IntKind.i64.wrap ((v:Int) - 1)=(v:Int) - 1:=by rw [IntKind.wrap_i64]<;>omega
      go_wp2_with (at_builtin;go_must (refine Ap2.app_node _ rfl _ _ rfl q0 (.slice (some ⟨g,0,none⟩) Q.length cp) Q (clN v ((l.length:Int)+(Q.length:Int) - 1) u) rfl _ rfl rfl HO5.out hq5 (by omega) ?_;intro g9 cp9 w9 ho9 hk9 hg9))
      have HO9:Hid (Own w9 q0 (.slice (some ⟨g9,0,none⟩) (Q.length+1) cp9) (Q++[clN v ((l.length:Int)+(Q.length:Int) - 1) u])):=ho9
      have HFL:Hid (F < w5.heap.size):=HA5.out.lt
      have HNE9:Hid (g9≠F):=fun e=>by
       rcases hg9 with h1|h1
       ·exact HNE.out (by have h2:g=g9:=Option.some.inj h1;rw [h2,e])
       ·have:=HFL.out;omega
      have hk9':Kept (fun k=>k=g) w5 w9:=⟨hk9.os,hk9.tape,hk9.output,hk9.size,fun k hk hn=>hk9.block k hk (fun e=>hn (by cases e;rfl))⟩
      have HA9:Hid (ArAt w9 F 0 f):=HA5.out.kept hk9' (fun e=>HNE.out e.symm)
      have HB9:Hid (Below w.heap.size w w9):=HB5.out.trans (hk9'.below (fun k (hk:k=g)=>by have:=(HO5.out.lt g rfl).1;have:=HQ0.out;omega) HB5.out.size)
      have HN9:Hid (Nodes w9 (some ⟨b,o,none⟩) l):=HN5.out.kept hk9' (fun x hx=>by cases hx;exact fun e=>HGB.out e.symm)
      clear ho9 hk9 hk9' hg9 HO5 HA5 HN5 HB5
      go_wp2
      go_roundw
      case rel =>
       have h7:=HV7.out
       exact ⟨k+1,g9,cp9,by omega,by congr 1;omega,by rw [HCL.out,List.length_append];rfl,by rw [HCL.out,List.length_append];exact HO9.out,HNE9.out,HA9.out,HN9.out,HB9.out⟩
      case measure=>first|(simp [intOf];omega)|simp [intOf]
    ·have hke:k=8:=by omega
     subst hke
     have hkz:¬ (0:Int)<=7 - ((8:Nat):Int):=by omega
     have hlen:l.length+(clTo l 8).length<=1048577:=by have:=clTo_le l 8;omega
     have HY:Hid (∀ i (h:i < (clTo l 8).length),NodeAt wb g (0+i*6) (clTo l 8)[i]):=fun i hi=>by
      obtain ⟨av,cv,hv,hw⟩:=HO.out.form
      cases hv
      rcases hw.2 with h0|⟨b2,o2,he,_,hc,_⟩
      ·omega
      ·cases he
       exact hc i hi
     have HML:Hid (moreL (clAll l)=clL l/\termOk (clAll l)=clB l):=⟨HE.out.2.symm,HE.out.1.symm⟩
     clear HO HA
     go_wp2_with fail
     refine (iBehind HTO.out wb b o g 0 l (clTo l 8) (clAll l) rfl c cp _ rfl HNB.out HY.out hlen).mono ?_
     rw [HML.out.1,HML.out.2]
     rintro e w6 ⟨⟨a',c',rfl,hw6,hc6⟩,hb6⟩
     have HW6:Hid (WNodes w6 w.heap.size a' (clL l)):=by
      obtain ⟨h1,h2⟩:=hw6
      refine ⟨h1,?_⟩
      rcases h2 with h0|⟨b2,o2,ha,hB,hcc,hf⟩
      ·exact .inl h0
      ·exact .inr ⟨b2,o2,ha,by have:=HBB.out.size;omega,hcc,hf⟩
     have HB6:Hid (Below w.heap.size w w6):=HBB.out.trans (hb6.mono HBB.out.size)
     have HC6:Hid ((clL l).length<=c'):=hc6
     clear hw6 hb6 hc6
     go_wp2
     go_ret2
     exact ⟨⟨_,_,rfl,HW6.out,HC6.out⟩,HB6.out⟩
end Pb9
namespace Ap15
open Go.RowKit
open Nd0 Nd3 Ap2 Dw3 Ap7
theorem step_call {ops:Array Oper} {o:Oper} {a:Act} {w:World} {K:Act->World->Prop} {Q:Exit->Act->World->Prop} {E:Prop} {f:Nat} {args:Array Value} (hgd:o.guard=none) (hrun:(execOp a.eval o).run Tryz.prog w=.ok (.enter f args) w)
 (hc:Calls Tryz.prog f args w fun e w'=>∃ v,e=.returned v/\K (a.put o.dst v) w'):if Region.wanted o (yielded ops a.tmps)=true then Oper.wp Tryz.prog o a w K Q else E:=by
 rw [if_pos (by simp [Region.wanted,hgd])]
 unfold Oper.wp
 rw [hrun,Oper.upon_enter]
 refine hc.mono ?_
 rintro e w' ⟨v,rfl,h⟩
 exact h
theorem step_any {ops:Array Oper} {o:Oper} {a:Act} {K:Act->World->Prop} {Q:Exit->Act->World->Prop} {E:Prop} (W:World) (hgd:o.guard=none) (s x:Operand)
 (ho:o.op=.call { callee:=.builtin .append,args := #[s,x],argTypes := #[24,24] })
 (B g c:Nat) (l ys L:List Nd) (hL:l++ys=L) (gx ox cx n m:Nat) (hs:a.eval s=.slice (some ⟨g,0,none⟩) n c) (hx:a.eval x=.slice (some ⟨gx,ox,none⟩) m cx) (hn:n=l.length) (hm:m=ys.length)
 (hy:∀ i (h:i < ys.length),NodeAt W gx (ox+i*6) ys[i]) (h0:0 < ys.length)
 (hown:Ap2.Own W B (.slice (some ⟨g,0,none⟩) l.length c) l) (hB:B<=W.heap.size) (hlen:l.length+ys.length<=1048577)
 (h:∀ g' cap w',Ap2.Own w' B (.slice (some ⟨g',0,none⟩) L.length cap) L->Kept (fun k=>k=g) W w'->(g'=g\/W.heap.size<=g')->K (a.put o.dst (.slice (some ⟨g',0,none⟩) L.length cap)) w') :
 if Region.wanted o (yielded ops a.tmps)=true then Oper.wp Tryz.prog o a W K Q else E:=by
 subst hn hm hL
 obtain ⟨i,hi,hzz⟩:=Option.map_eq_some_iff.1 infoNode
 simp only [Prod.mk.injEq] at hzz
 obtain ⟨hz,hsz,hb⟩:=hzz
 refine step_append_lies (w:=W) hgd s x 24 ho B 44 i _ 6 48 Tryz.underlying24 hi hz hsz hb rfl (by omega) _ l.length (flat l) hs hown
  ⟨gx,ox,none⟩ ys.length cx (flat ys) hx (flat_length ys) (fun j u hu=>nodes_cells hy j u hu) ?_ h0 (by unfold maxLen;omega) (by omega) hB W.heap.size rfl ?_
 ·intro u hu
  obtain ⟨n,_,hn⟩:=List.mem_flatMap.1 hu
  simp [Nd.cells] at hn
  rcases hn with rfl|rfl|rfl|rfl|rfl|rfl<;>rfl
 ·intro g' cap w' h1 h2 h3 h4
  have h5:Ap2.Own w' B (.slice (some ⟨g',0,none⟩) (l++ys).length cap) (l++ys):=by unfold Ap2.Own;rw [flat_app,List.length_append];exact h1
  rw [<- List.length_append]
  refine h g' cap w' h5 ⟨h2.os,h2.tape,h2.output,h2.size,fun k hk hn=>h2.block k hk (fun e=>hn (by cases e;rfl))⟩ ?_
  rcases h3 with h3|h3
  ·exact .inl (by cases h3;rfl)
  ·exact .inr (by omega)
end Ap15
namespace Nd4
open Go.RowKit
open Nd0 Nd1 Nd3
theorem infoNode:(Tryz.prog.info? 44).map (fun i=>(i.zero,i.size,i.bytes))=some (some (.agg #[.int .i64 0,.int .i64 0,.int .i64 0,.int .i64 0,.int .i64 0,.int .i64 0]),6,48):=by kernel_rfl
def zeros (n:Nat):Array Value:=madeCells #[.int .i64 0,.int .i64 0,.int .i64 0,.int .i64 0,.int .i64 0,.int .i64 0] (n*6)
theorem zeros_get (n j:Nat) (h:j < n*6):(zeros n)[j]? = some (.int .i64 0):=by
 have hz:∀ m,m < 6->(#[.int .i64 0,.int .i64 0,.int .i64 0,.int .i64 0,.int .i64 0,.int .i64 0]:Array Value)[m]! = .int .i64 0:=by
  intro m hm
  have:m=0\/m=1\/m=2\/m=3\/m=4\/m=5:=by omega
  rcases this with rfl|rfl|rfl|rfl|rfl|rfl<;>rfl
 simp only [zeros,madeCells,Array.getElem?_map,Array.getElem?_range]
 rw [if_pos h]
 simp only [Option.map_some]
 exact congrArg some (hz _ (Nat.mod_lt _ (by simp)))
theorem makeNodes (n:Nat) (hn:n<=1048576) (w:World) :
 (Instr.makeSlice 24 (.int .i64 (n:Int)) (.int .i64 (n:Int))).run Tryz.prog w=.ok (.slice (some ⟨w.heap.size,0,none⟩) n n) (w.alloc (.cells (zeros n) 44)):=by
 obtain ⟨i,hi,hzz⟩:=Option.map_eq_some_iff.1 infoNode
 simp only [Prod.mk.injEq] at hzz
 obtain ⟨hz,hs,hb⟩:=hzz
 have h:=run_make (P:=Tryz.prog) w 24 44 i _ Tryz.underlying24 hi hz .i64 .i64 n n (by omega) (Int.le_refl _) (by rw [hb];omega) (by omega)
 rw [hs] at h
 simpa [zeros,Value.cells] using h
theorem zeros_at (w:World) (n:Nat) (T:Nat) (j:Nat) (hj:j < n):NodeAt (w.alloc (.cells (zeros n) T)) w.heap.size (j*6) Nd.zero:=by
 refine ⟨?_,?_,?_,?_,?_,?_⟩<;>rw [World.cell?_alloc_new]<;>exact zeros_get _ _ (by omega)
end Nd4
namespace Aw2
open Go.RowKit
open Nd0 Nd3 Pl1 Tm0 Tm1 Tm8 Pg1 Pg2 Aq0
open Ap2 (app_node)
open Nd4 (makeNodes zeros zeros_get)
open Aw1 (nv)
def RowN (w:World) (g n:Nat) (f:Nat->Nd):Prop:=∀ i,i < n->NodeAt w g (i*6) (f i)/\∀ j,j < 6->w.frozen? ⟨g,i*6+j,none⟩=false
theorem RowN.kept {w w':World} {g n:Nat} {f:Nat->Nd} (h:RowN w g n f) {S:Nat->Prop} (k:Kept S w w') (hs:¬ S g):RowN w' g n f:=fun i hi=>by
 obtain ⟨⟨c0,c1,c2,c3,c4,c5⟩,hf⟩:=h i hi
 have hb:g < w.heap.size:=lt_of_cell (p:=⟨g,i*6,none⟩) c0
 exact ⟨⟨by rw [k.cell hb hs];exact c0,by rw [k.cell hb hs];exact c1,by rw [k.cell hb hs];exact c2,by rw [k.cell hb hs];exact c3,by rw [k.cell hb hs];exact c4,by rw [k.cell hb hs];exact c5⟩,fun j hj=>by rw [k.frozen (p:=⟨g,i*6+j,none⟩) hb hs];exact hf j hj⟩
theorem RowN.below {w w':World} {g n:Nat} {f:Nat->Nd} (h:RowN w g n f) (k:Below w.heap.size w w'):RowN w' g n f:=h.kept (S:=fun _=>False) (Kept.ofBelow k) (fun h=>h)
theorem RowN.congr {w:World} {g n:Nat} {f f':Nat->Nd} (h:RowN w g n f) (e:∀ i,i < n->f i=f' i):RowN w g n f':=fun i hi=>by rw [<- e i hi];exact h i hi
theorem RowN.lt {w:World} {g n:Nat} {f:Nat->Nd} (h:RowN w g n f) (hn:0 < n):g < w.heap.size:=(h 0 hn).1.lt
theorem RowN.set {w:World} {g n:Nat} {f:Nat->Nd} (h:RowN w g n f) {p:Nat} (hp:p < n) (v:Nd):RowN (setNode w g (p*6) v) g n (fun i=>if i=p then v else f i):=by
 intro i hi
 refine ⟨?_,fun j hj=>by rw [setNode_frozen];exact (h i hi).2 j hj⟩
 by_cases e:i=p
 ·subst e
  dsimp only
  rw [if_pos rfl]
  exact setNode_same (h i hi).1
 ·dsimp only
  rw [if_neg e]
  exact setNode_other (h i hi).1 (by omega)
theorem RowN.new (w:World) (n T:Nat):RowN (w.alloc (.cells (zeros n) T)) w.heap.size n (fun _=>Nd.zero):=fun i hi=>⟨Nd4.zeros_at w n T i hi,fun j hj=>by simp⟩
def TellN (w0:World) (k:Nat) (cap:Array Value) (l:List Nd) (F:Nat->Nd->List Nd->Nd):Prop :=
 ∀ (W:World) (i:Nat) (a:Option Addr) (c:Nat),i < l.length->Below w0.heap.size w0 W->Nodes W a (said Nd.zero F l i) ->
  Calls Tryz.prog k (#[.int .i64 (i:Int),nv (nth l i),.slice a (said Nd.zero F l i).length c]++cap) W fun e w'=>e=.returned (nv (F i (nth l i) (said Nd.zero F l i)))/\Below W.heap.size W w'
theorem wNode (k:Nat) (cap:Array Value) (F:Nat->Nd->List Nd->Nd) (w:World) (a:Option Addr) (l:List Nd) (c:Nat) (hN:Nodes w a l) (hD:Down l) (hl:l.length<=1048576)
 (hk:∀ args w,(callFunc k args).run Tryz.prog w=.ok (.enter k args) w) (hT:TellN w k cap l F) :
 Calls Tryz.prog 36 #[.slice a l.length c,.func (.func k) #[] cap] w fun e w'=>(∃ a',e=.returned (.slice a' l.length l.length)/\WNodes w' w.heap.size a' (wk Nd.zero F l l.length))/\Below w.heap.size w w':=by
 have HN:Hid (Nodes w a l):=hN
 have HD:Hid (Down l):=hD
 have HT:Hid (TellN w k cap l F):=hT
 clear hN hD hT
 have hmk:=makeNodes l.length hl w
 obtain ⟨g,hg⟩:∃ g:Nat,g=w.heap.size:=⟨_,rfl⟩
 have HG:Hid (g=w.heap.size):=hg
 have HR0:Hid (RowN (w.alloc (.cells (zeros l.length) 44)) g l.length (fun i=>(wk Nd.zero F l 0).getD i Nd.zero)):=by
  rw [hg]
  exact RowN.new _ _ _
 have HB0:Hid (Below w.heap.size w (w.alloc (.cells (zeros l.length) 44))):=(Below.refl _ _).alloc (Nat.le_refl _) _
 go_enter Tryz.func36,Tryz.ntmps36
 go_wp2_with fail
 clear hmk
 rw [<- hg]
 clear hg
 generalize w.alloc (.cells (zeros l.length) 44)=wa at HR0 HB0 ⊢
 go_loopw [16] (fun q wr=>∃ j:Nat,j<=l.length/\q=.int .i64 j/\RowN wr g l.length (fun i=>(wk Nd.zero F l j).getD i Nd.zero)/\Below w.heap.size w wr) (fun q _=>l.length - (intOf q).toNat)
 case atStart=>exact ⟨0,Nat.zero_le _,rfl,HR0.out,HB0.out⟩
 case round =>
  clear HR0 HB0
  obtain ⟨j,hj,rfl,hr,hb⟩:=hrel
  obtain ⟨wb,rfl⟩:∃ wb:World,wb=wr:=⟨_,rfl⟩
  have HR:Hid (RowN wb g l.length (fun i=>(wk Nd.zero F l j).getD i Nd.zero)):=hr
  have HB:Hid (Below w.heap.size w wb):=hb
  have hBs:w.heap.size<=wb.heap.size:=hb.size
  clear hr hb
  by_cases hlt:j < l.length
  ·have hlz:(j:Int) < (l.length:Int):=by omega
   rcases (HN.out.below HB.out).2 with h0|⟨xb,xo,rfl,hc⟩
   ·omega
   obtain ⟨p0,p1,p2,p3,p4,p5⟩:=hc j hlt
   rw [nth_get hlt] at p0 p1 p2 p3 p4 p5
   clear hc
   have HDJ:Hid (∀ p∈parts (nth l j),0<=p/\p < (j:Int)):=HD.out j hlt
   have HSA:Hid (said Nd.zero F l j=(parts (nth l j)).map fun p=>(wk Nd.zero F l j).getD p.toNat Nd.zero):=rfl
   have HTJ:Hid (∀ (W:World) (a:Option Addr) (c:Nat),Below w.heap.size w W->Nodes W a (said Nd.zero F l j) ->
    Calls Tryz.prog k (#[.int .i64 (j:Int),nv (nth l j),.slice a (said Nd.zero F l j).length c]++cap) W fun e w'=>e=.returned (nv (F j (nth l j) (said Nd.zero F l j)))/\Below W.heap.size W w'):=fun W a c h1 h2=>HT.out W j a c hlt h1 h2
   have HWK:Hid (∀ i,(wk Nd.zero F l (j+1)).getD i Nd.zero=if i=j then F j (nth l j) (said Nd.zero F l j) else (wk Nd.zero F l j).getD i Nd.zero):=fun i=>wk_set Nd.zero F l j i
   generalize hn:nth l j=n at p0 p1 p2 p3 p4 p5 HDJ HSA HTJ HWK
   clear hn
   generalize F j n (said Nd.zero F l j)=y at HTJ HWK
   generalize said Nd.zero F l j=sd at HSA HTJ
   have hX:∃ X:Nat->Nd,X=fun i=>(wk Nd.zero F l j).getD i Nd.zero:=⟨_,rfl⟩
   obtain ⟨X,hX⟩:=hX
   have HRX:Hid (RowN wb g l.length X):=by rw [hX];exact HR.out
   have HSX:Hid (sd=(parts n).map fun p=>X p.toNat):=by show _=_;rw [hX];exact HSA.out
   have HWX:Hid (∀ i,(wk Nd.zero F l (j+1)).getD i Nd.zero=if i=j then y else X i):=by rw [hX];exact HWK.out
   clear hX HSA HWK HR
   have hgl:g < wb.heap.size:=HRX.out.lt (by omega)
   obtain ⟨W1,hW1⟩:∃ W1:World,W1=wb.alloc (.cells #[.int .i64 n.op,.int .i64 n.w,.int .i64 n.k,.int .i64 n.a,.int .i64 n.b,.int .i64 n.c] 44):=⟨_,rfl⟩
   have hs1:W1.heap.size=wb.heap.size+1:=by rw [hW1];simp
   have HB1:Hid (Below wb.heap.size wb W1):=by rw [hW1];exact (Below.refl _ _).alloc (Nat.le_refl _) _
   have HNB:Hid (NodeAt W1 wb.heap.size 0 n):=by rw [hW1];exact ⟨by simp,by simp,by simp,by simp,by simp,by simp⟩
   obtain ⟨W2,hW2⟩:∃ W2:World,W2=W1.alloc (.cells #[] 44):=⟨_,rfl⟩
   have hs2:W2.heap.size=wb.heap.size+2:=by rw [hW2];simp [hs1]
   have HB2:Hid (Below W1.heap.size W1 W2):=by rw [hW2];exact (Below.refl _ _).alloc (Nat.le_refl _) _
   have HO2:Hid (Ap2.Own W2 W1.heap.size (.slice (some ⟨wb.heap.size+1,0,none⟩) 0 0) []):=by rw [<- hs1,hW2];exact Ap2.Own.lit W1 _ (Nat.le_refl _)
   go_wp2_with fail
   rw [<- hW1,<- hW2]
   refine (iParts n W2).mono ?_
   rintro e W3 ⟨⟨pa,pc,rfl,hpi⟩,hb3⟩
   have hs3:=hb3.size
   have HP3:Hid (IntsIn W3 W2.heap.size W3.heap.size pa (parts n)):=hpi.within
   have HO3:Hid (Ap2.Own W3 W1.heap.size (.slice (some ⟨wb.heap.size+1,0,none⟩) 0 0) []):=HO2.out.kept (S:=fun _=>False) (Kept.ofBelow hb3) (fun _ _ h=>h)
   have HB3:Hid (Below W1.heap.size W1 W3):=HB2.out.trans (hb3.mono (by omega))
   have hpl:=parts_le n
   clear hpi hb3 HB2 HO2 hW1 hW2 p0 p1 p2 p3 p4 p5
   go_wp2_with fail
   go_loopw [8,25] (fun v q wq=>∃ m:Nat,m<=(parts n).length/\q=.int .i64 m/\Ap2.Own wq W1.heap.size v (((parts n).take m).map fun p=>X p.toNat)/\Below W1.heap.size W1 wq/\IntsIn wq W2.heap.size W3.heap.size pa (parts n)/\W3.heap.size<=wq.heap.size/\∀ x,v.ownBlock=some x->x < W2.heap.size\/W3.heap.size<=x) (fun _ q _=>(parts n).length - (intOf q).toNat)
   case atStart=>exact ⟨0,Nat.zero_le _,rfl,HO3.out,HB3.out,HP3.out,Nat.le_refl _,fun x hx=>by cases hx;exact .inl (by simp;omega)⟩
   case round =>
    clear HO3 HB3 HP3
    obtain ⟨m,hm,rfl,ho,hb,hi,hsz,hne⟩:=hrel
    have HBQ:Hid (Below W1.heap.size W1 wr):=hb
    have HIQ:Hid (IntsIn wr W2.heap.size W3.heap.size pa (parts n)):=hi
    have HRQ:Hid (RowN wr g l.length X):=(HRX.out.below HB1.out).below hb
    have HBW:Hid (Below w.heap.size w wr):=(HB.out.trans (HB1.out.mono hBs)).trans (hb.mono (by omega))
    have hB1:W1.heap.size<=wr.heap.size:=hb.size
    clear hb hi
    obtain ⟨ao,co,rfl,hwn⟩:=ho.form
    have HO:Hid (Ap2.Own wr W1.heap.size (.slice ao (((parts n).take m).map fun p=>X p.toNat).length co) (((parts n).take m).map fun p=>X p.toNat)):=ho
    have HNE:Hid (∀ x,(Value.slice ao (((parts n).take m).map fun p=>X p.toNat).length co).ownBlock=some x->x < W2.heap.size\/W3.heap.size<=x):=hne
    have HLJ:Hid ((((parts n).take m).map fun p=>X p.toNat).length=m):=by
     show _=_
     rw [List.length_map,List.length_take];omega
    clear ho hne
    by_cases hlt2:m < (parts n).length
    ·have hmz:(m:Int) < ((parts n).length:Int):=by omega
     clear hwn
     rcases HIQ.out.2 with h0|⟨pb,po,rfl,hpB,hpU,hpc⟩
     ·omega
     have q0:=(hpc m hlt2).1
     have HPM:=HDJ.out _ (List.getElem_mem hlt2)
     have HTK:Hid (((parts n).take (m+1)).map (fun p=>X p.toNat)=(((parts n).take m).map fun p=>X p.toNat)++[X (parts n)[m].toNat]):=by
      show _=_
      rw [List.take_succ_eq_append_getElem hlt2,List.map_append];rfl
     obtain ⟨hy0,hy1⟩:=HPM
     generalize (parts n)[m]=yp at q0 hy0 hy1 HTK
     generalize (((parts n).take m).map fun p=>X p.toNat)=L at HO HNE HLJ HTK ⊢
     clear hpc
     obtain ⟨jy,rfl⟩:=Int.eq_ofNat_of_zero_le hy0
     rw [Int.toNat_natCast] at HTK
     have c9:NodeAt wr g (jy*6) (X jy):=(HRQ.out jy (by omega)).1
     have hyl:(jy:Int) < (l.length:Int):=by omega
     have hLl:L.length<=1048576:=by have:=HLJ.out;omega
     generalize X jy=z at c9 HTK
     obtain ⟨c0,c1,c2,c3,c4,c5⟩:=c9
     go_wp2_with (at_builtin;go_must (refine app_node _ rfl _ _ rfl W1.heap.size (.slice ao L.length co) L z rfl _ rfl rfl HO.out hB1 hLl ?_;intro g5 cp5 w5 ho5 hk5 hg5))
     have HO5:Hid (Ap2.Own w5 W1.heap.size (.slice (some ⟨g5,0,none⟩) (L.length+1) cp5) (L++[z])):=ho5
     have HK5:Hid (Kept (fun k=>(Value.slice ao L.length co).ownBlock=some k) wr w5):=hk5
     have HG5:Hid ((Value.slice ao L.length co).ownBlock=some g5\/wr.heap.size<=g5):=hg5
     clear ho5 hk5 hg5
     go_wp2
     go_roundw
     case rel =>
      refine ⟨m+1,by omega,by go_num,by rw [HTK.out];exact HO5.out,HBQ.out.trans (HK5.out.below (fun b hb=>(HO.out.lt b hb).1) hB1),HIQ.out.kept HK5.out (fun b h1 h2 e=>by have:=HNE.out b e;omega),by have:=HK5.out.size;omega,fun b hb=>?_⟩
      cases hb
      rcases HG5.out with e|e
      ·exact HNE.out _ e
      ·exact .inr (by show _<=g5;omega)
     case measure=>simp [intOf];omega
    ·have hmz:¬ (m:Int) < ((parts n).length:Int):=by omega
     have hme:m=(parts n).length:=by omega
     have HLS:Hid ((((parts n).take m).map fun p=>X p.toNat)=sd):=by show _=_;rw [HSX.out,List.take_of_length_le (by omega)]
     clear HO HNE HLJ hme
     rw [HLS.out] at hwn ⊢
     have HWN:Hid (WNodes wr W1.heap.size ao sd):=hwn
     obtain ⟨b0,b1,b2,b3,b4,b5⟩:=HNB.out.below HBQ.out (by omega)
     clear hwn
     go_wp2_with fail
     refine (HTJ.out wr ao co HBW.out HWN.out.nodes).mono ?_
     rintro e w6 ⟨rfl,hb6⟩
     have HB6:Hid (Below w.heap.size w w6):=HBW.out.trans (hb6.mono (by omega))
     have HR6:Hid (RowN w6 g l.length X):=HRQ.out.below hb6
     obtain ⟨⟨c0,c1,c2,c3,c4,c5⟩,hfz⟩:=HR6.out j hlt
     have f0:=hfz 0 (by omega)
     have f1:=hfz 1 (by omega)
     have f2:=hfz 2 (by omega)
     have f3:=hfz 3 (by omega)
     have f4:=hfz 4 (by omega)
     have f5:=hfz 5 (by omega)
     rw [Nat.add_zero] at f0
     clear hfz
     clear hb6 b0 b1 b2 b3 b4 b5
     go_wp2_with fail
     go_roundw
     case rel =>
      refine ⟨j+1,by omega,by go_num,?_,HB6.out.trans ((setNode_keptS (S:=fun b=>b=g) (b:=g) (p:=j*6) (n:=y) rfl (Kept.refl _ w6)).below (fun b (hb:b=g)=>by have:=HG.out;omega) HB6.out.size)⟩
      refine (HR6.out.set hlt _).congr (fun i hi=>?_)
      rw [HWX.out]
     case measure=>simp [intOf];omega
  ·have e2:j=l.length:=by omega
   subst e2
   go_wp2
   go_ret
   refine ⟨⟨_,rfl,⟨by rw [wk_length];unfold maxLen;omega,.inr ⟨g,0,rfl,by have:=HG.out;omega,fun i hi=>?_,fun j hj=>?_⟩⟩⟩,HB.out⟩
   ·have h9:=HR.out i (by rw [wk_length] at hi;exact hi)
    dsimp only at h9
    rw [List.getD_eq_getElem?_getD,List.getElem?_eq_getElem hi] at h9
    rw [Nat.zero_add]
    exact h9.1
   ·rw [wk_length] at hj
    have h9:=(HR.out (j / 6) (by omega)).2 (j % 6) (Nat.mod_lt _ (by omega))
    rw [Nat.zero_add]
    have e:j / 6*6+j % 6=j:=by omega
    rw [e] at h9
    exact h9
end Aw2
end Go.Proofs.YthanhcobfehmnaaGreat
