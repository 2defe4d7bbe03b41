import Derived.Test.YthanhcobfehmnaaGreatPkQU27
namespace Go.Proofs.YthanhcobfehmnaaGreat
set_option maxRecDepth 100000
set_option maxHeartbeats 8000000
set_option linter.unusedVariables false
namespace Sp7
open Go.RowKit
open Nd0 Nd1 Nd3 Tm0 Tm1 Tm2 Tm3 Ap0 Ap1 Ap2 Sp2 Sp4 Sp5
theorem nodeAt_of {w:World} {b o:Nat} {l:List Nd} (h:Nodes w (some ⟨b,o,none⟩) l) {i:Nat} (hi:i < l.length):NodeAt w b (o+i*6) (nth l i):=by
 rcases h.2 with h0|⟨b',o',hb,hc⟩
 ·omega
 ·cases hb
  have h9:=hc i hi
  rw [nth_get hi] at h9
  exact h9
theorem ows_cell {w:World} {B g n cap:Nat} {l:List Int} (h:Ows w B (.slice (some ⟨g,0,none⟩) n cap) l) {i:Nat} (hi:i < l.length):w.cell? ⟨g,i,none⟩=some (.int .i64 l[i]):=by
 obtain ⟨a,c,hv,hw⟩:=h.form
 cases hv
 rcases hw.2 with h0|⟨b,o,hb,_,hc⟩
 ·omega
 ·cases hb
  have h9:=(hc i hi).1
  rw [Nat.zero_add] at h9
  exact h9
theorem place_at {l:List Nd} {k:Nat} {y x:Int} (h0:0<=x) (h1:x < k) (h:x.toNat < (places l k++[y]).length):(places l k++[y])[x.toNat]=plc l x:=by
 have hl:x.toNat < (places l k).length:=by rw [places_length];omega
 rw [List.getElem_append_left hl,places_get]
 unfold plc
 rw [Int.toNat_natCast]
theorem keep {B:Nat} {u v w:World} (h:Below B u v) (k:Below v.heap.size v w) (hB:B<=v.heap.size):Below B u w:=h.trans (k.mono hB)
theorem sPrune (w:World) (a:Option Addr) (l:List Nd) (c:Nat) (hN:Nodes w a l) :
 Calls Tryz.prog 30 #[.slice a l.length c] w fun e w'=>(∃ v,e=.returned v/\Ap2.Own w' w.heap.size v (pruneL l))/\Below w.heap.size w w':=by
 have HN:Hid (Nodes w a l):=hN
 clear hN
 have HLIT:Hid (Ap2.Own (w.alloc (.cells #[] 44)) w.heap.size (.slice (some ⟨w.heap.size,0,none⟩) 0 0) []):=Own.lit w _ (Nat.le_refl _)
 have HB0:Hid (Below w.heap.size w (w.alloc (.cells #[] 44))):=(Below.refl _ _).alloc (Nat.le_refl _) _
 cases hT:termOk l
 ·have HR:Hid (pruneL l=[]):=by show pruneL l=[];simp [pruneL,hT]
  go_enter Tryz.func30,Tryz.ntmps30
  go_wp2_with fail
  refine (sTermOk _ a l c (HN.out.below HB0.out)).mono ?_
  rintro e w1 ⟨rfl,hb1⟩
  have HB1:Hid (Below (w.alloc (.cells #[] 44)).heap.size (w.alloc (.cells #[] 44)) w1):=hb1
  clear hb1
  go_wp2
  go_ret
  refine ⟨⟨_,rfl,?_⟩,keep HB0.out HB1.out HB0.out.size⟩
  rw [HR.out]
  exact HLIT.out.kept (S:=fun _=>False) (Kept.ofBelow HB1.out) (fun _ _ h=>h)
 ·have HR:Hid (pruneL l=pruneTo l l.length):=by show pruneL l=_;simp [pruneL,hT]
  have HT:Hid (termOk l=true):=hT
  obtain ⟨hl1,hl2⟩:=term_len hT
  rcases HN.out.2 with h0|⟨xb,xo,rfl,hxc⟩
  ·omega
  clear hxc
  go_enter Tryz.func30,Tryz.ntmps30
  go_wp2_with fail
  refine (sTermOk _ _ l c (HN.out.below HB0.out)).mono ?_
  rintro e w1 ⟨rfl,hb1⟩
  have HO1:Hid (Ap2.Own w1 w.heap.size (.slice (some ⟨w.heap.size,0,none⟩) 0 0) []):=HLIT.out.kept (S:=fun _=>False) (Kept.ofBelow hb1) (fun _ _ h=>h)
  have HB1:Hid (Below w.heap.size w w1):=keep HB0.out hb1 HB0.out.size
  have hs1:w.heap.size < w1.heap.size:=by have:=hb1.size;simp at this;omega
  clear hb1
  go_wp2_with fail
  refine (sReach _ _ l c (HN.out.below HB1.out) HT.out).mono ?_
  rintro e w2 ⟨⟨vi,rfl,hoi⟩,hb2⟩
  have HO2:Hid (Ap2.Own w2 w.heap.size (.slice (some ⟨w.heap.size,0,none⟩) 0 0) []):=HO1.out.kept (S:=fun _=>False) (Kept.ofBelow hb2) (fun _ _ h=>h)
  have HB2:Hid (Below w.heap.size w w2):=keep HB1.out hb2 HB1.out.size
  have hs2:w1.heap.size<=w2.heap.size:=hb2.size
  clear hb2 hT
  obtain ⟨gi,ci,hv,hg1,hg2⟩:=hoi.at (by rw [reachL_length];exact hl1)
  rw [reachL_length] at hv
  rw [hv]
  have HOI:Hid (Owb w2 w1.heap.size (.slice (some ⟨gi,0,none⟩) l.length ci) (reachL l)):=hv ▸ hoi
  clear hoi hv
  go_wp2_with fail
  go_loopw [3,5,6] (fun vo vp q wr=>∃ k:Nat,k<=l.length/\q=.int .i64 k/\Below w.heap.size w wr/\Owb wr w1.heap.size (.slice (some ⟨gi,0,none⟩) l.length ci) (reachL l)/\Ows wr w2.heap.size vp (places l k)/\Ap2.Own wr w.heap.size vo (pruneTo l k)/\(∀ b,vo.ownBlock=some b->b≠gi)/\(∀ b,vp.ownBlock=some b->vo.ownBlock≠some b)/\w2.heap.size<=wr.heap.size) (fun _ _ q _=>l.length - (intOf q).toNat)
  case atStart =>
   have k2:Kept (fun _=>False) w2 (w2.alloc (.cells #[] 3)):=(Kept.refl _ _).alloc _
   refine ⟨0,Nat.zero_le _,rfl,HB2.out.alloc HB2.out.size _,HOI.out.kept k2 (fun _ _ h=>h),Ows.lit w2 _ (Nat.le_refl _),HO2.out.kept k2 (fun _ _ h=>h),fun b hb=>?_,fun b hb hb'=>?_,by simp⟩
   ·have:b=w.heap.size:=by simpa [Value.ownBlock] using hb.symm
    omega
   ·have e1:b=w2.heap.size:=by simpa [Value.ownBlock] using hb.symm
    have e2:b=w.heap.size:=by simpa [Value.ownBlock] using hb'.symm
    omega
  case round =>
   obtain ⟨k,hk,rfl,hb,hoi,hop,hoo,hne1,hne2,hBs⟩:=hrel
   obtain ⟨ao,co,rfl⟩:=hoo.len
   have HB:Hid (Below w.heap.size w wr):=hb
   have HI:Hid (Owb wr w1.heap.size (.slice (some ⟨gi,0,none⟩) l.length ci) (reachL l)):=hoi
   have HP:Hid (Ows wr w2.heap.size u5 (places l k)):=hop
   have HO:Hid (Ap2.Own wr w.heap.size (.slice ao (pruneTo l k).length co) (pruneTo l k)):=hoo
   have HN1:Hid (∀ b,(Value.slice ao (pruneTo l k).length co).ownBlock=some b->b≠gi):=hne1
   have HN2:Hid (∀ b,u5.ownBlock=some b->(Value.slice ao (pruneTo l k).length co).ownBlock≠some b):=hne2
   have hgw:gi < wr.heap.size:=(hoi.lt gi rfl).2
   clear hb hop hoo hne1 hne2 hoi
   by_cases hlt:k < l.length
   ·have hlz:(k:Int) < (l.length:Int):=by omega
    have HSC:Hid (pruneTo l (k+1)=if flag (reachL l) k then pruneTo l k++[remap l (nth l k)] else pruneTo l k):=pruneTo_succ l k
    have HPS:Hid (places l (k+1)=places l k++[((pruneTo l k).length:Int)]):=by
     show places l (k+1)=_
     rw [places_succ,pruneTo_length]
    have hpl:(places l k).length=k:=places_length l k
    cases hf:flag (reachL l) k
    ·go_wp2_with (at_builtin;go_must (refine app_int _ rfl _ _ rfl w2.heap.size u5 (places l k) ((pruneTo l k).length:Int) rfl rfl HP.out hBs (by rw [places_length];omega) ?_;intro g cp w3 ho3 hk3 hg3;have HP3:Hid (Ows w3 w2.heap.size (.slice (some ⟨g,0,none⟩) ((places l k).length+1) cp) (places l k++[((pruneTo l k).length:Int)])):=ho3;have HK3:Hid (Kept (fun b=>u5.ownBlock=some b) wr w3):=hk3;have HG3:Hid (u5.ownBlock=some g\/wr.heap.size<=g):=hg3;have HI3:Hid (Owb w3 w1.heap.size (.slice (some ⟨gi,0,none⟩) l.length ci) (reachL l)):=HI.out.kept hk3 (fun b hb h=>by (have e:b=gi:=by simpa [Value.ownBlock] using hb.symm);have:=(HP.out.lt b h).1;omega);have HO3:Hid (Ap2.Own w3 w.heap.size (.slice ao (pruneTo l k).length co) (pruneTo l k)):=HO.out.kept hk3 (fun b hb h=>HN2.out b h hb);have HB3:Hid (Below w.heap.size w w3):=HB.out.trans (hk3.below (fun b hb=>by have:=(HP.out.lt b hb).1;omega) HB.out.size);have hs3:wr.heap.size<=w3.heap.size:=hk3.size;have cI:w3.cell? ⟨gi,k,none⟩=some (.bool (flag (reachL l) k)):=(by have h9:=(HI3.out.cell' (reachL_length l) k hlt).1;rw [flag_get] at h9;exact h9);rw [hf] at cI;clear ho3 hk3 hg3))
     go_roundw
     case rel =>
      refine ⟨k+1,by omega,by go_num,HB3.out,HI3.out,?_,?_,HN1.out,?_,by omega⟩
      ·rw [HPS.out]
       have h9:=HP3.out
       rw [hpl] at h9
       exact h9
      ·have h9:=HSC.out
       rw [hf] at h9
       rw [h9]
       exact HO3.out
      ·intro b hb hb'
       have e:b=g:=by simpa [Value.ownBlock] using hb.symm
       subst e
       rcases HG3.out with h|h
       ·exact HN2.out _ h hb'
       ·have:=(HO.out.lt b hb').2
        omega
     case measure=>simp [intOf];omega
    ·generalize hnd:nth l k=n at HSC
     have HD:Hid (nth l k=n):=hnd
     have HPO:Hid (∀ j (hj:j < (parts n).length),0<=(parts n)[j]/\(parts n)[j] < k):=by
      have h9:=parts_ok (term_node HT.out hlt)
      rw [hnd] at h9
      exact h9
     clear hnd
     go_wp2_with (at_builtin;go_must (refine app_int _ rfl _ _ rfl w2.heap.size u5 (places l k) ((pruneTo l k).length:Int) rfl rfl HP.out hBs (by rw [places_length];omega) ?_;intro g cp w3 ho3 hk3 hg3;have HP3:Hid (Ows w3 w2.heap.size (.slice (some ⟨g,0,none⟩) ((places l k).length+1) cp) (places l k++[((pruneTo l k).length:Int)])):=ho3;have HK3:Hid (Kept (fun b=>u5.ownBlock=some b) wr w3):=hk3;have HG3:Hid (u5.ownBlock=some g\/wr.heap.size<=g):=hg3;have HI3:Hid (Owb w3 w1.heap.size (.slice (some ⟨gi,0,none⟩) l.length ci) (reachL l)):=HI.out.kept hk3 (fun b hb h=>by (have e:b=gi:=by simpa [Value.ownBlock] using hb.symm);have:=(HP.out.lt b h).1;omega);have HO3:Hid (Ap2.Own w3 w.heap.size (.slice ao (pruneTo l k).length co) (pruneTo l k)):=HO.out.kept hk3 (fun b hb h=>HN2.out b h hb);have HB3:Hid (Below w.heap.size w w3):=HB.out.trans (hk3.below (fun b hb=>by have:=(HP.out.lt b hb).1;omega) HB.out.size);have hs3:wr.heap.size<=w3.heap.size:=hk3.size;have cI:w3.cell? ⟨gi,k,none⟩=some (.bool (flag (reachL l) k)):=(by have h9:=(HI3.out.cell' (reachL_length l) k hlt).1;rw [flag_get] at h9;exact h9);rw [hf] at cI;have HQ:=nodeAt_of (HN.out.below HB3.out) hlt;rw [HD.out] at HQ;obtain ⟨p0,p1,p2,p3,p4,p5⟩:=HQ;clear ho3 hk3 hg3))
     refine (sParts n _).mono ?_
     rintro e w4 ⟨⟨pa,pc,rfl,hpi⟩,hb4⟩
     have HB4:Hid (Below (w3.heap.size+1) (w3.alloc (.cells #[.int .i64 n.op,.int .i64 n.w,.int .i64 n.k,.int .i64 n.a,.int .i64 n.b,.int .i64 n.c] 44)) w4):=by
      have h9:=hb4
      simp at h9
      exact h9
     have HK4:Hid (Kept (fun b=>b=w3.heap.size) w3 w4):=Kept.trans ((Kept.refl _ w3).alloc _) (Kept.ofBelow hb4)
     have HP4:Hid (Ows w4 w2.heap.size (.slice (some ⟨g,0,none⟩) ((places l k).length+1) cp) (places l k++[((pruneTo l k).length:Int)])):=HP3.out.kept HK4.out (fun b hb h=>by have:=(HP3.out.lt b hb).2;omega)
     have d0:w4.cell? ⟨w3.heap.size,0,none⟩=some (.int .i64 n.op):=by rw [HB4.out.cell (by simp)];simp
     have d1:w4.cell? ⟨w3.heap.size,1,none⟩=some (.int .i64 n.w):=by rw [HB4.out.cell (by simp)];simp
     have d2:w4.cell? ⟨w3.heap.size,2,none⟩=some (.int .i64 n.k):=by rw [HB4.out.cell (by simp)];simp
     have d3:w4.cell? ⟨w3.heap.size,3,none⟩=some (.int .i64 n.a):=by rw [HB4.out.cell (by simp)];simp
     have d4:w4.cell? ⟨w3.heap.size,4,none⟩=some (.int .i64 n.b):=by rw [HB4.out.cell (by simp)];simp
     have d5:w4.cell? ⟨w3.heap.size,5,none⟩=some (.int .i64 n.c):=by rw [HB4.out.cell (by simp)];simp
     have f3:w4.frozen? ⟨w3.heap.size,3,none⟩=false:=by rw [HB4.out.frozen (by simp)];simp
     have f4:w4.frozen? ⟨w3.heap.size,4,none⟩=false:=by rw [HB4.out.frozen (by simp)];simp
     have f5:w4.frozen? ⟨w3.heap.size,5,none⟩=false:=by rw [HB4.out.frozen (by simp)];simp
     have hs4:w3.heap.size+1<=w4.heap.size:=by have:=HB4.out.size;simpa using this
     clear hpi hb4 p0 p1 p2 p3 p4 p5 cI
     have hw3:w.heap.size<=w3.heap.size:=HB3.out.size
     rcases parts_cases n with hpa|hpa|hpa|hpa
     ·have hpn:(parts n).length=0:=by rw [hpa];rfl
      have hgn:g≠w3.heap.size:=by have:=(HP3.out.lt g rfl).2;omega
      have HRM:Hid (remap l n=⟨n.op,n.w,n.k,n.a,n.b,n.c⟩):=by
       show remap l n=_
       unfold remap;rw [hpn];rfl
      go_wp2_with (at_builtin;go_must (refine app_node _ rfl _ _ rfl w.heap.size (.slice ao (pruneTo l k).length co) (pruneTo l k) ⟨n.op,n.w,n.k,n.a,n.b,n.c⟩ rfl _ rfl (by simp) (by exact HO3.out.kept (S:=fun b=>b=w3.heap.size) (HK4.out) (fun b hb h=>by have:=(HO3.out.lt b hb).2;omega)) (by first|(simp [World.setCell];omega)|omega) (by rw [pruneTo_length];have:=reachTo_length l k;omega) ?_;intro g5 cp5 w5 ho5 hk5 hg5))
      have HO5:Hid (Ap2.Own w5 w.heap.size (.slice (some ⟨g5,0,none⟩) ((pruneTo l k).length+1) cp5) (pruneTo l k++[⟨n.op,n.w,n.k,n.a,n.b,n.c⟩])):=ho5
      have HK5:Hid (Kept (fun b=>b=w3.heap.size\/(Value.slice ao (pruneTo l k).length co).ownBlock=some b) w3 w5):=Kept.trans ((HK4.out).mono (fun _ h=>.inl h)) (hk5.mono (fun _ h=>.inr h))
      have HG5:Hid ((Value.slice ao (pruneTo l k).length co).ownBlock=some g5\/w4.heap.size<=g5):=by
       rcases hg5 with h|h
       ·exact .inl h
       ·exact .inr (by first|(simpa [World.setCell] using h)|exact h)
      clear ho5 hk5 hg5
      have HNG:Hid ((Value.slice ao (pruneTo l k).length co).ownBlock≠some g):=by
       intro h
       rcases HG3.out with h1|h1
       ·exact HN2.out g h1 h
       ·have:=(HO.out.lt g h).2
        omega
      go_roundw
      case rel =>
       have hgg:=(HP3.out.lt g rfl).2
       have h5:=HK5.out.size
       refine ⟨k+1,by omega,by go_num,HB3.out.trans (HK5.out.below (fun b hb=>by
        rcases hb with h|h
        ·omega
        ·exact (HO3.out.lt b h).1) hw3),HI3.out.kept HK5.out (fun b hb h=>by
         have e:b=gi:=by simpa [Value.ownBlock] using hb.symm
         rcases h with h|h
         ·omega
         ·exact HN1.out b h e),?_,?_,?_,?_,by omega⟩
       ·rw [HPS.out]
        have h9:=HP3.out.kept HK5.out (fun b hb h=>by
         have e:b=g:=by simpa [Value.ownBlock] using hb.symm
         rcases h with h|h
         ·omega
         ·subst e;exact HNG.out h)
        rw [hpl] at h9
        exact h9
       ·have h9:=HSC.out
        rw [hf] at h9
        rw [h9,if_pos rfl,HRM.out]
        exact HO5.out
       ·intro b hb
        have e:b=g5:=by simpa [Value.ownBlock] using hb.symm
        subst e
        rcases HG5.out with h|h
        ·exact HN1.out _ h
        ·omega
       ·intro b hb hb'
        have e1:b=g:=by simpa [Value.ownBlock] using hb.symm
        have e2:b=g5:=by simpa [Value.ownBlock] using hb'.symm
        subst e1
        subst e2
        rcases HG5.out with h|h
        ·exact HNG.out h
        ·omega
      case measure=>simp [intOf];omega
     ·have hpn:(parts n).length=1:=by rw [hpa];rfl
      have hq0:0<=n.a/\n.a < k:=by
       have h9:=HPO.out 0 (by rw [hpa];simp)
       simpa [hpa] using h9
      obtain ⟨hq0a,hq0b⟩:=hq0
      have r0:w4.cell? ⟨g,(n.a).toNat,none⟩=some (.int .i64 (plc l n.a)):=by
       have h9:=ows_cell HP4.out (i:=(n.a).toNat) (by rw [List.length_append,places_length];simp;omega)
       rw [place_at hq0a hq0b] at h9
       exact h9
      have hqz0:n.a < (((places l k).length+1:Nat):Int):=by rw [hpl];omega
      have hgn:g≠w3.heap.size:=by have:=(HP3.out.lt g rfl).2;omega
      have HRM:Hid (remap l n=⟨n.op,n.w,n.k,plc l n.a,n.b,n.c⟩):=by
       show remap l n=_
       unfold remap;rw [hpn];rfl
      go_wp2_with (at_builtin;go_must (refine app_node _ rfl _ _ rfl w.heap.size (.slice ao (pruneTo l k).length co) (pruneTo l k) ⟨n.op,n.w,n.k,plc l n.a,n.b,n.c⟩ rfl _ rfl (by simp) (by exact HO3.out.kept (S:=fun b=>b=w3.heap.size) ((HK4.out).setCell (p:=⟨w3.heap.size,3,none⟩) rfl _) (fun b hb h=>by have:=(HO3.out.lt b hb).2;omega)) (by first|(simp [World.setCell];omega)|omega) (by rw [pruneTo_length];have:=reachTo_length l k;omega) ?_;intro g5 cp5 w5 ho5 hk5 hg5))
      have HO5:Hid (Ap2.Own w5 w.heap.size (.slice (some ⟨g5,0,none⟩) ((pruneTo l k).length+1) cp5) (pruneTo l k++[⟨n.op,n.w,n.k,plc l n.a,n.b,n.c⟩])):=ho5
      have HK5:Hid (Kept (fun b=>b=w3.heap.size\/(Value.slice ao (pruneTo l k).length co).ownBlock=some b) w3 w5):=Kept.trans (((HK4.out).setCell (p:=⟨w3.heap.size,3,none⟩) rfl _).mono (fun _ h=>.inl h)) (hk5.mono (fun _ h=>.inr h))
      have HG5:Hid ((Value.slice ao (pruneTo l k).length co).ownBlock=some g5\/w4.heap.size<=g5):=by
       rcases hg5 with h|h
       ·exact .inl h
       ·exact .inr (by first|(simpa [World.setCell] using h)|exact h)
      clear ho5 hk5 hg5
      have HNG:Hid ((Value.slice ao (pruneTo l k).length co).ownBlock≠some g):=by
       intro h
       rcases HG3.out with h1|h1
       ·exact HN2.out g h1 h
       ·have:=(HO.out.lt g h).2
        omega
      go_roundw
      case rel =>
       have hgg:=(HP3.out.lt g rfl).2
       have h5:=HK5.out.size
       refine ⟨k+1,by omega,by go_num,HB3.out.trans (HK5.out.below (fun b hb=>by
        rcases hb with h|h
        ·omega
        ·exact (HO3.out.lt b h).1) hw3),HI3.out.kept HK5.out (fun b hb h=>by
         have e:b=gi:=by simpa [Value.ownBlock] using hb.symm
         rcases h with h|h
         ·omega
         ·exact HN1.out b h e),?_,?_,?_,?_,by omega⟩
       ·rw [HPS.out]
        have h9:=HP3.out.kept HK5.out (fun b hb h=>by
         have e:b=g:=by simpa [Value.ownBlock] using hb.symm
         rcases h with h|h
         ·omega
         ·subst e;exact HNG.out h)
        rw [hpl] at h9
        exact h9
       ·have h9:=HSC.out
        rw [hf] at h9
        rw [h9,if_pos rfl,HRM.out]
        exact HO5.out
       ·intro b hb
        have e:b=g5:=by simpa [Value.ownBlock] using hb.symm
        subst e
        rcases HG5.out with h|h
        ·exact HN1.out _ h
        ·omega
       ·intro b hb hb'
        have e1:b=g:=by simpa [Value.ownBlock] using hb.symm
        have e2:b=g5:=by simpa [Value.ownBlock] using hb'.symm
        subst e1
        subst e2
        rcases HG5.out with h|h
        ·exact HNG.out h
        ·omega
      case measure=>simp [intOf];omega
     ·have hpn:(parts n).length=2:=by rw [hpa];rfl
      have hq0:0<=n.a/\n.a < k:=by
       have h9:=HPO.out 0 (by rw [hpa];simp)
       simpa [hpa] using h9
      obtain ⟨hq0a,hq0b⟩:=hq0
      have r0:w4.cell? ⟨g,(n.a).toNat,none⟩=some (.int .i64 (plc l n.a)):=by
       have h9:=ows_cell HP4.out (i:=(n.a).toNat) (by rw [List.length_append,places_length];simp;omega)
       rw [place_at hq0a hq0b] at h9
       exact h9
      have hqz0:n.a < (((places l k).length+1:Nat):Int):=by rw [hpl];omega
      have hq1:0<=n.b/\n.b < k:=by
       have h9:=HPO.out 1 (by rw [hpa];simp)
       simpa [hpa] using h9
      obtain ⟨hq1a,hq1b⟩:=hq1
      have r1:w4.cell? ⟨g,(n.b).toNat,none⟩=some (.int .i64 (plc l n.b)):=by
       have h9:=ows_cell HP4.out (i:=(n.b).toNat) (by rw [List.length_append,places_length];simp;omega)
       rw [place_at hq1a hq1b] at h9
       exact h9
      have hqz1:n.b < (((places l k).length+1:Nat):Int):=by rw [hpl];omega
      have hgn:g≠w3.heap.size:=by have:=(HP3.out.lt g rfl).2;omega
      have HRM:Hid (remap l n=⟨n.op,n.w,n.k,plc l n.a,plc l n.b,n.c⟩):=by
       show remap l n=_
       unfold remap;rw [hpn];rfl
      go_wp2_with (at_builtin;go_must (refine app_node _ rfl _ _ rfl w.heap.size (.slice ao (pruneTo l k).length co) (pruneTo l k) ⟨n.op,n.w,n.k,plc l n.a,plc l n.b,n.c⟩ rfl _ rfl (by simp) (by exact HO3.out.kept (S:=fun b=>b=w3.heap.size) (((HK4.out).setCell (p:=⟨w3.heap.size,3,none⟩) rfl _).setCell (p:=⟨w3.heap.size,4,none⟩) rfl _) (fun b hb h=>by have:=(HO3.out.lt b hb).2;omega)) (by first|(simp [World.setCell];omega)|omega) (by rw [pruneTo_length];have:=reachTo_length l k;omega) ?_;intro g5 cp5 w5 ho5 hk5 hg5))
      have HO5:Hid (Ap2.Own w5 w.heap.size (.slice (some ⟨g5,0,none⟩) ((pruneTo l k).length+1) cp5) (pruneTo l k++[⟨n.op,n.w,n.k,plc l n.a,plc l n.b,n.c⟩])):=ho5
      have HK5:Hid (Kept (fun b=>b=w3.heap.size\/(Value.slice ao (pruneTo l k).length co).ownBlock=some b) w3 w5):=Kept.trans ((((HK4.out).setCell (p:=⟨w3.heap.size,3,none⟩) rfl _).setCell (p:=⟨w3.heap.size,4,none⟩) rfl _).mono (fun _ h=>.inl h)) (hk5.mono (fun _ h=>.inr h))
      have HG5:Hid ((Value.slice ao (pruneTo l k).length co).ownBlock=some g5\/w4.heap.size<=g5):=by
       rcases hg5 with h|h
       ·exact .inl h
       ·exact .inr (by first|(simpa [World.setCell] using h)|exact h)
      clear ho5 hk5 hg5
      have HNG:Hid ((Value.slice ao (pruneTo l k).length co).ownBlock≠some g):=by
       intro h
       rcases HG3.out with h1|h1
       ·exact HN2.out g h1 h
       ·have:=(HO.out.lt g h).2
        omega
      go_roundw
      case rel =>
       have hgg:=(HP3.out.lt g rfl).2
       have h5:=HK5.out.size
       refine ⟨k+1,by omega,by go_num,HB3.out.trans (HK5.out.below (fun b hb=>by
        rcases hb with h|h
        ·omega
        ·exact (HO3.out.lt b h).1) hw3),HI3.out.kept HK5.out (fun b hb h=>by
         have e:b=gi:=by simpa [Value.ownBlock] using hb.symm
         rcases h with h|h
         ·omega
         ·exact HN1.out b h e),?_,?_,?_,?_,by omega⟩
       ·rw [HPS.out]
        have h9:=HP3.out.kept HK5.out (fun b hb h=>by
         have e:b=g:=by simpa [Value.ownBlock] using hb.symm
         rcases h with h|h
         ·omega
         ·subst e;exact HNG.out h)
        rw [hpl] at h9
        exact h9
       ·have h9:=HSC.out
        rw [hf] at h9
        rw [h9,if_pos rfl,HRM.out]
        exact HO5.out
       ·intro b hb
        have e:b=g5:=by simpa [Value.ownBlock] using hb.symm
        subst e
        rcases HG5.out with h|h
        ·exact HN1.out _ h
        ·omega
       ·intro b hb hb'
        have e1:b=g:=by simpa [Value.ownBlock] using hb.symm
        have e2:b=g5:=by simpa [Value.ownBlock] using hb'.symm
        subst e1
        subst e2
        rcases HG5.out with h|h
        ·exact HNG.out h
        ·omega
      case measure=>simp [intOf];omega
     ·have hpn:(parts n).length=3:=by rw [hpa];rfl
      have hq0:0<=n.a/\n.a < k:=by
       have h9:=HPO.out 0 (by rw [hpa];simp)
       simpa [hpa] using h9
      obtain ⟨hq0a,hq0b⟩:=hq0
      have r0:w4.cell? ⟨g,(n.a).toNat,none⟩=some (.int .i64 (plc l n.a)):=by
       have h9:=ows_cell HP4.out (i:=(n.a).toNat) (by rw [List.length_append,places_length];simp;omega)
       rw [place_at hq0a hq0b] at h9
       exact h9
      have hqz0:n.a < (((places l k).length+1:Nat):Int):=by rw [hpl];omega
      have hq1:0<=n.b/\n.b < k:=by
       have h9:=HPO.out 1 (by rw [hpa];simp)
       simpa [hpa] using h9
      obtain ⟨hq1a,hq1b⟩:=hq1
      have r1:w4.cell? ⟨g,(n.b).toNat,none⟩=some (.int .i64 (plc l n.b)):=by
       have h9:=ows_cell HP4.out (i:=(n.b).toNat) (by rw [List.length_append,places_length];simp;omega)
       rw [place_at hq1a hq1b] at h9
       exact h9
      have hqz1:n.b < (((places l k).length+1:Nat):Int):=by rw [hpl];omega
      have hq2:0<=n.c/\n.c < k:=by
       have h9:=HPO.out 2 (by rw [hpa];simp)
       simpa [hpa] using h9
      obtain ⟨hq2a,hq2b⟩:=hq2
      have r2:w4.cell? ⟨g,(n.c).toNat,none⟩=some (.int .i64 (plc l n.c)):=by
       have h9:=ows_cell HP4.out (i:=(n.c).toNat) (by rw [List.length_append,places_length];simp;omega)
       rw [place_at hq2a hq2b] at h9
       exact h9
      have hqz2:n.c < (((places l k).length+1:Nat):Int):=by rw [hpl];omega
      have hgn:g≠w3.heap.size:=by have:=(HP3.out.lt g rfl).2;omega
      have HRM:Hid (remap l n=⟨n.op,n.w,n.k,plc l n.a,plc l n.b,plc l n.c⟩):=by
       show remap l n=_
       unfold remap;rw [hpn];rfl
      go_wp2_with (at_builtin;go_must (refine app_node _ rfl _ _ rfl w.heap.size (.slice ao (pruneTo l k).length co) (pruneTo l k) ⟨n.op,n.w,n.k,plc l n.a,plc l n.b,plc l n.c⟩ rfl _ rfl (by simp) (by exact HO3.out.kept (S:=fun b=>b=w3.heap.size) ((((HK4.out).setCell (p:=⟨w3.heap.size,3,none⟩) rfl _).setCell (p:=⟨w3.heap.size,4,none⟩) rfl _).setCell (p:=⟨w3.heap.size,5,none⟩) rfl _) (fun b hb h=>by have:=(HO3.out.lt b hb).2;omega)) (by first|(simp [World.setCell];omega)|omega) (by rw [pruneTo_length];have:=reachTo_length l k;omega) ?_;intro g5 cp5 w5 ho5 hk5 hg5))
      have HO5:Hid (Ap2.Own w5 w.heap.size (.slice (some ⟨g5,0,none⟩) ((pruneTo l k).length+1) cp5) (pruneTo l k++[⟨n.op,n.w,n.k,plc l n.a,plc l n.b,plc l n.c⟩])):=ho5
      have HK5:Hid (Kept (fun b=>b=w3.heap.size\/(Value.slice ao (pruneTo l k).length co).ownBlock=some b) w3 w5):=Kept.trans (((((HK4.out).setCell (p:=⟨w3.heap.size,3,none⟩) rfl _).setCell (p:=⟨w3.heap.size,4,none⟩) rfl _).setCell (p:=⟨w3.heap.size,5,none⟩) rfl _).mono (fun _ h=>.inl h)) (hk5.mono (fun _ h=>.inr h))
      have HG5:Hid ((Value.slice ao (pruneTo l k).length co).ownBlock=some g5\/w4.heap.size<=g5):=by
       rcases hg5 with h|h
       ·exact .inl h
       ·exact .inr (by first|(simpa [World.setCell] using h)|exact h)
      clear ho5 hk5 hg5
      have HNG:Hid ((Value.slice ao (pruneTo l k).length co).ownBlock≠some g):=by
       intro h
       rcases HG3.out with h1|h1
       ·exact HN2.out g h1 h
       ·have:=(HO.out.lt g h).2
        omega
      go_roundw
      case rel =>
       have hgg:=(HP3.out.lt g rfl).2
       have h5:=HK5.out.size
       refine ⟨k+1,by omega,by go_num,HB3.out.trans (HK5.out.below (fun b hb=>by
        rcases hb with h|h
        ·omega
        ·exact (HO3.out.lt b h).1) hw3),HI3.out.kept HK5.out (fun b hb h=>by
         have e:b=gi:=by simpa [Value.ownBlock] using hb.symm
         rcases h with h|h
         ·omega
         ·exact HN1.out b h e),?_,?_,?_,?_,by omega⟩
       ·rw [HPS.out]
        have h9:=HP3.out.kept HK5.out (fun b hb h=>by
         have e:b=g:=by simpa [Value.ownBlock] using hb.symm
         rcases h with h|h
         ·omega
         ·subst e;exact HNG.out h)
        rw [hpl] at h9
        exact h9
       ·have h9:=HSC.out
        rw [hf] at h9
        rw [h9,if_pos rfl,HRM.out]
        exact HO5.out
       ·intro b hb
        have e:b=g5:=by simpa [Value.ownBlock] using hb.symm
        subst e
        rcases HG5.out with h|h
        ·exact HN1.out _ h
        ·omega
       ·intro b hb hb'
        have e1:b=g:=by simpa [Value.ownBlock] using hb.symm
        have e2:b=g5:=by simpa [Value.ownBlock] using hb'.symm
        subst e1
        subst e2
        rcases HG5.out with h|h
        ·exact HNG.out h
        ·omega
      case measure=>simp [intOf];omega
   ·have e:k=l.length:=by omega
    subst e
    go_wp2
    go_ret
    exact ⟨⟨_,rfl,by rw [HR.out];exact HO.out⟩,HB.out⟩
end Sp7
end Go.Proofs.YthanhcobfehmnaaGreat
