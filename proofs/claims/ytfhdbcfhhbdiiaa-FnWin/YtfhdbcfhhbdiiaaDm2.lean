import Derived.Test.YtfhdbcfhhbdiiaaDm1
namespace Go.Proofs.Ytfhdbcfhhbdiiaa
set_option maxRecDepth 100000
set_option maxHeartbeats 8000000
set_option linter.unusedVariables false
namespace Dm2
open Go.RowKit
open Ta0 Ta1 Ta2 Ta3 Tc2 Tc5 Td1 Td2 Td4 De0 Dv0 Dm1
open Nd0 (Kept set_other set_same lt_of_cell)
open Nd6 (Bools)
open Ss0 (bs bs_size)
open Ss1 (tl)
theorem md_cons {q:Bool} {r:List Bool} (hr:r.length<=11) (ih:MD r):MD (q :: r):=by
 intro F w a c hB hc
 rw [List.length_cons] at hc ⊢
 obtain ⟨b,o,rfl,p0,t,ht,hT⟩:=bools_tail hB hc
 obtain ⟨c1,hc1⟩:∃ c1,c1=c - 1:=⟨_,rfl⟩
 have HH0:Hid (∀ W,Calls Try.prog 63 #[tv ((r.length:Int)+1) (bs (tab (r.length+1) F)),.int .i64 0] W fun e w'=>e=.returned (.tuple #[tv (r.length:Int) (bs (tab r.length (hb r.length 0 F))),.bool true])/\Below W.heap.size W w'):=fun W=>by
  have:=sHalf r.length 0 F W (by omega) (by omega)
  rw [show ((r.length+1:Nat):Int)=(r.length:Int)+1 by omega] at this
  exact this
 have HH1:Hid (∀ W,Calls Try.prog 63 #[tv ((r.length:Int)+1) (bs (tab (r.length+1) F)),.int .i64 1] W fun e w'=>e=.returned (.tuple #[tv (r.length:Int) (bs (tab r.length (hb r.length 1 F))),.bool true])/\Below W.heap.size W w'):=fun W=>by
  have:=sHalf r.length 1 F W (by omega) (by omega)
  rw [show ((r.length+1:Nat):Int)=(r.length:Int)+1 by omega] at this
  exact this
 have HI:Hid (∀ (W:World) (T:ByteArray) (z:Bool),((T=bs (tab r.length (hb r.length 0 F))/\z=dc r (hb r.length 0 F))\/(T=bs (tab r.length (hb r.length 1 F))/\z=dc r (hb r.length 1 F)))->Below w.heap.size w W->Calls Try.prog 34 #[.slice (some ⟨b,t,none⟩) r.length c1,tv (r.length:Int) T] W fun e w'=>e=.returned (.int .i64 (z.toNat:Int))/\Below W.heap.size W w'):=fun W T z h hW=>by
  rcases h with ⟨rfl,rfl⟩|⟨rfl,rfl⟩
  ·exact ih _ W _ _ (hT.below hW) (by omega)
  ·exact ih _ W _ _ (hT.below hW) (by omega)
 have hnn:(((r.length+1:Nat):Int)==0)=false:=beq_eq_false_iff_ne.2 (by omega)
 have HT0:Hid (t=if c=1 then o else o+1):=ht
 have hcn:r.length+1<=c:=hc
 have hcz:(r.length:Int)+1<=(c:Int):=by omega
 have hm:c<=c:=Nat.le_refl _
 rw [show ((r.length+1:Nat):Int)=(r.length:Int)+1 by omega] at *
 obtain ⟨r0,hr0⟩:∃ r0,r0=dc r (hb r.length 0 F):=⟨_,rfl⟩
 obtain ⟨r1,hr1⟩:∃ r1,r1=dc r (hb r.length 1 F):=⟨_,rfl⟩
 have HR0:Hid (dc r (hb r.length 0 F)=r0):=hr0.symm
 have HR1:Hid (dc r (hb r.length 1 F)=r1):=hr1.symm
 rw [<- hr0,<- hr1] at HI
 clear hr0 hr1 hB hT ih hc ht hm
 generalize bs (tab r.length (hb r.length 0 F))=S0 at *
 generalize bs (tab r.length (hb r.length 1 F))=S1 at *
 generalize bs (tab (r.length+1) F)=S at *
 have hn0:(0:Int)<=(r.length:Int):=by omega
 rcases (by by_cases e:c=1;exact Or.inl ⟨e,by rw [HT0.out,if_pos e],by omega⟩;exact Or.inr ⟨e,by rw [HT0.out,if_neg e],hc1⟩:(c=1/\o=t/\c1=0)\/(¬ c=1/\o+1=t/\c1=c - 1)) with ⟨rfl,rfl,rfl⟩|⟨hce,rfl,rfl⟩
 ·clear HT0 hc1
  cases q
  ·have HD:Hid (dc (false :: r) F=(r0||r1)):=by
    show _=_
    rw [dc,HR0.out,HR1.out]
    rfl
   have hbit:bits .or .i64 (r0.toNat:Int) (r1.toNat:Int)=(((r0||r1).toNat:Nat):Int):=by cases r0<;>cases r1<;>rfl
   generalize r.length=n at *
   have hb1:(1:Int)<=(n:Int)+1:=by omega
   have HI0:Hid (∀ W,Below w.heap.size w W->Calls Try.prog 34 #[.slice (some ⟨b,o,none⟩) 0 0,tv (n:Int) S0] W fun e w'=>e=.returned (.int .i64 (r0.toNat:Int))/\Below W.heap.size W w'):=fun W h=>by
    have h1:=HI.out W S0 r0 (Or.inl ⟨rfl,rfl⟩) h
    have e:n=0:=by omega
    rw [e] at h1 ⊢
    exact h1
   have HI1:Hid (∀ W,Below w.heap.size w W->Calls Try.prog 34 #[.slice (some ⟨b,o,none⟩) 0 0,tv (n:Int) S1] W fun e w'=>e=.returned (.int .i64 (r1.toNat:Int))/\Below W.heap.size W w'):=fun W h=>by
    have h1:=HI.out W S1 r1 (Or.inr ⟨rfl,rfl⟩) h
    have e:n=0:=by omega
    rw [e] at h1 ⊢
    exact h1
   clear HI
   obtain ⟨W0,hW0⟩:∃ W0,W0=w.alloc (.cells #[.int .i64 ((n:Int)+1),.string S] 26):=⟨_,rfl⟩
   have HX0:Hid (Lay W0 w.heap.size (.int .i64 ((n:Int)+1)) (.string S)):=by rw [hW0];exact Lay.made _ _ _ _
   have HB0:Hid (Below w.heap.size w W0):=by rw [hW0];exact (Below.refl _ _).alloc (Nat.le_refl _) _
   have HW0:Hid (w.alloc (.cells #[.int .i64 ((n:Int)+1),.string S] 26)=W0):=hW0.symm
   clear hW0
   rw [HD.out]
   clear HD HR0 HR1
   go_enter Try.func34,Try.ntmps34
   go_upto_region 1 with fail
   rw [HW0.out]
   clear HW0
   obtain ⟨x0,x1,_,_⟩:=HX0.out
   go_wp2_with fail
   refine (HH0.out _).mono ?_
   rintro e w1 ⟨rfl,hb⟩
   have HB1:Hid (Below w.heap.size w w1):=HB0.out.trans (hb.mono HB0.out.size)
   have HX1:Hid (Lay w1 w.heap.size (.int .i64 ((n:Int)+1)) (.string S)):=HX0.out.below hb
   clear hb x0 x1 HX0 HB0
   obtain ⟨W1,hW1⟩:∃ W1,W1=w1.alloc (.cells #[.int .i64 (n:Int),.string S0] 26):=⟨_,rfl⟩
   have HX2:Hid (Lay W1 w.heap.size (.int .i64 ((n:Int)+1)) (.string S)):=by rw [hW1];exact HX1.out.alloc _
   have HY2:Hid (Lay W1 w1.heap.size (.int .i64 (n:Int)) (.string S0)):=by rw [hW1];exact Lay.made _ _ _ _
   have HB2:Hid (Below w.heap.size w W1):=by rw [hW1];exact HB1.out.alloc HB1.out.size _
   have HW1:Hid (w1.alloc (.cells #[.int .i64 (n:Int),.string S0] 26)=W1):=hW1.symm
   clear hW1 HX1 HB1
   go_upto_region 4 with fail
   rw [HW1.out]
   generalize hq1:w1.heap.size=q1 at *
   clear hq1 HW1
   obtain ⟨x0,x1,_,_⟩:=HX2.out
   go_wp2_with fail
   refine (HH1.out _).mono ?_
   rintro e w2 ⟨rfl,hb⟩
   have HB3:Hid (Below w.heap.size w w2):=HB2.out.trans (hb.mono HB2.out.size)
   have HY3:Hid (Lay w2 q1 (.int .i64 (n:Int)) (.string S0)):=HY2.out.below hb
   clear hb x0 x1 HX2 HB2 HY2
   obtain ⟨W2,hW2⟩:∃ W2,W2=w2.alloc (.cells #[.int .i64 (n:Int),.string S1] 26):=⟨_,rfl⟩
   have HY4:Hid (Lay W2 q1 (.int .i64 (n:Int)) (.string S0)):=by rw [hW2];exact HY3.out.alloc _
   have HZ4:Hid (Lay W2 w2.heap.size (.int .i64 (n:Int)) (.string S1)):=by rw [hW2];exact Lay.made _ _ _ _
   have HB4:Hid (Below w.heap.size w W2):=by rw [hW2];exact HB3.out.alloc HB3.out.size _
   have HW2:Hid (w2.alloc (.cells #[.int .i64 (n:Int),.string S1] 26)=W2):=hW2.symm
   clear hW2 HY3 HB3
   go_upto_region 5 with fail
   rw [HW2.out]
   generalize hq2:w2.heap.size=q2 at *
   clear hq2 HW2
   have DY:Lay W2.drew q1 (.int .i64 (n:Int)) (.string S0):=HY4.out.kept (S:=fun _=>False) (Kept.refl _ _).drew (fun h=>h)
   have DZ:Lay W2.drew q2 (.int .i64 (n:Int)) (.string S1):=HZ4.out.kept (S:=fun _=>False) (Kept.refl _ _).drew (fun h=>h)
   have HBD:Hid (Below w.heap.size w W2.drew):=HB4.out.drew
   have p1:W2.drew.cell? ⟨b,o,none⟩=some (.bool false):=by rw [HBD.out.cell (lt_of_cell p0)];exact p0
   go_region_held3 (fun w'=>w'.cell? ⟨q1,0,none⟩=some (.int .i64 (n:Int))/\w'.cell? ⟨q1,1,none⟩=some (.string S0)/\w'.cell? ⟨q2,0,none⟩=some (.int .i64 (n:Int))/\w'.cell? ⟨q2,1,none⟩=some (.string S1)) ((first|exact ⟨EY.c0,EY.c1,EZ.c0,EZ.c1⟩|exact ⟨DY.c0,DY.c1,DZ.c0,DZ.c1⟩)) ((go_at_call 34;(first|with_reducible refine (HI0.out _ HBE.out).mono ?_|with_reducible refine (HI0.out _ HBD.out).mono ?_|with_reducible refine (HI1.out _ HBE.out).mono ?_|with_reducible refine (HI1.out _ HBD.out).mono ?_);rintro e w6 ⟨rfl,hb6⟩;have EY:Lay w6 q1 (.int .i64 (n:Int)) (.string S0):=(by first|exact EY.below hb6|exact DY.below hb6);have EZ:Lay w6 q2 (.int .i64 (n:Int)) (.string S1):=(by first|exact EZ.below hb6|exact DZ.below hb6);have HBE:Hid (Below w.heap.size w w6):=(by first|exact HBE.out.trans (hb6.mono HBE.out.size)|exact HBD.out.trans (hb6.mono HBD.out.size));clear hb6))
   all_goals
    have p2:w6.cell? ⟨b,o,none⟩=some (.bool false):=by rw [HBE.out.cell (lt_of_cell p0)];exact p0
    go_wp2
    go_ret
    exact ⟨ret_int (by first|exact hbit|rfl),HBE.out⟩
  ·have HD:Hid (dc (true :: r) F=(r0&&r1)):=by
    show _=_
    rw [dc,HR0.out,HR1.out]
    rfl
   have hbit:bits .and .i64 (r0.toNat:Int) (r1.toNat:Int)=(((r0&&r1).toNat:Nat):Int):=by cases r0<;>cases r1<;>rfl
   generalize r.length=n at *
   have hb1:(1:Int)<=(n:Int)+1:=by omega
   have HI0:Hid (∀ W,Below w.heap.size w W->Calls Try.prog 34 #[.slice (some ⟨b,o,none⟩) 0 0,tv (n:Int) S0] W fun e w'=>e=.returned (.int .i64 (r0.toNat:Int))/\Below W.heap.size W w'):=fun W h=>by
    have h1:=HI.out W S0 r0 (Or.inl ⟨rfl,rfl⟩) h
    have e:n=0:=by omega
    rw [e] at h1 ⊢
    exact h1
   have HI1:Hid (∀ W,Below w.heap.size w W->Calls Try.prog 34 #[.slice (some ⟨b,o,none⟩) 0 0,tv (n:Int) S1] W fun e w'=>e=.returned (.int .i64 (r1.toNat:Int))/\Below W.heap.size W w'):=fun W h=>by
    have h1:=HI.out W S1 r1 (Or.inr ⟨rfl,rfl⟩) h
    have e:n=0:=by omega
    rw [e] at h1 ⊢
    exact h1
   clear HI
   obtain ⟨W0,hW0⟩:∃ W0,W0=w.alloc (.cells #[.int .i64 ((n:Int)+1),.string S] 26):=⟨_,rfl⟩
   have HX0:Hid (Lay W0 w.heap.size (.int .i64 ((n:Int)+1)) (.string S)):=by rw [hW0];exact Lay.made _ _ _ _
   have HB0:Hid (Below w.heap.size w W0):=by rw [hW0];exact (Below.refl _ _).alloc (Nat.le_refl _) _
   have HW0:Hid (w.alloc (.cells #[.int .i64 ((n:Int)+1),.string S] 26)=W0):=hW0.symm
   clear hW0
   rw [HD.out]
   clear HD HR0 HR1
   go_enter Try.func34,Try.ntmps34
   go_upto_region 1 with fail
   rw [HW0.out]
   clear HW0
   obtain ⟨x0,x1,_,_⟩:=HX0.out
   go_wp2_with fail
   refine (HH0.out _).mono ?_
   rintro e w1 ⟨rfl,hb⟩
   have HB1:Hid (Below w.heap.size w w1):=HB0.out.trans (hb.mono HB0.out.size)
   have HX1:Hid (Lay w1 w.heap.size (.int .i64 ((n:Int)+1)) (.string S)):=HX0.out.below hb
   clear hb x0 x1 HX0 HB0
   obtain ⟨W1,hW1⟩:∃ W1,W1=w1.alloc (.cells #[.int .i64 (n:Int),.string S0] 26):=⟨_,rfl⟩
   have HX2:Hid (Lay W1 w.heap.size (.int .i64 ((n:Int)+1)) (.string S)):=by rw [hW1];exact HX1.out.alloc _
   have HY2:Hid (Lay W1 w1.heap.size (.int .i64 (n:Int)) (.string S0)):=by rw [hW1];exact Lay.made _ _ _ _
   have HB2:Hid (Below w.heap.size w W1):=by rw [hW1];exact HB1.out.alloc HB1.out.size _
   have HW1:Hid (w1.alloc (.cells #[.int .i64 (n:Int),.string S0] 26)=W1):=hW1.symm
   clear hW1 HX1 HB1
   go_upto_region 4 with fail
   rw [HW1.out]
   generalize hq1:w1.heap.size=q1 at *
   clear hq1 HW1
   obtain ⟨x0,x1,_,_⟩:=HX2.out
   go_wp2_with fail
   refine (HH1.out _).mono ?_
   rintro e w2 ⟨rfl,hb⟩
   have HB3:Hid (Below w.heap.size w w2):=HB2.out.trans (hb.mono HB2.out.size)
   have HY3:Hid (Lay w2 q1 (.int .i64 (n:Int)) (.string S0)):=HY2.out.below hb
   clear hb x0 x1 HX2 HB2 HY2
   obtain ⟨W2,hW2⟩:∃ W2,W2=w2.alloc (.cells #[.int .i64 (n:Int),.string S1] 26):=⟨_,rfl⟩
   have HY4:Hid (Lay W2 q1 (.int .i64 (n:Int)) (.string S0)):=by rw [hW2];exact HY3.out.alloc _
   have HZ4:Hid (Lay W2 w2.heap.size (.int .i64 (n:Int)) (.string S1)):=by rw [hW2];exact Lay.made _ _ _ _
   have HB4:Hid (Below w.heap.size w W2):=by rw [hW2];exact HB3.out.alloc HB3.out.size _
   have HW2:Hid (w2.alloc (.cells #[.int .i64 (n:Int),.string S1] 26)=W2):=hW2.symm
   clear hW2 HY3 HB3
   go_upto_region 5 with fail
   rw [HW2.out]
   generalize hq2:w2.heap.size=q2 at *
   clear hq2 HW2
   have DY:Lay W2.drew q1 (.int .i64 (n:Int)) (.string S0):=HY4.out.kept (S:=fun _=>False) (Kept.refl _ _).drew (fun h=>h)
   have DZ:Lay W2.drew q2 (.int .i64 (n:Int)) (.string S1):=HZ4.out.kept (S:=fun _=>False) (Kept.refl _ _).drew (fun h=>h)
   have HBD:Hid (Below w.heap.size w W2.drew):=HB4.out.drew
   have p1:W2.drew.cell? ⟨b,o,none⟩=some (.bool true):=by rw [HBD.out.cell (lt_of_cell p0)];exact p0
   go_region_held3 (fun w'=>w'.cell? ⟨q1,0,none⟩=some (.int .i64 (n:Int))/\w'.cell? ⟨q1,1,none⟩=some (.string S0)/\w'.cell? ⟨q2,0,none⟩=some (.int .i64 (n:Int))/\w'.cell? ⟨q2,1,none⟩=some (.string S1)) ((first|exact ⟨EY.c0,EY.c1,EZ.c0,EZ.c1⟩|exact ⟨DY.c0,DY.c1,DZ.c0,DZ.c1⟩)) ((go_at_call 34;(first|with_reducible refine (HI0.out _ HBE.out).mono ?_|with_reducible refine (HI0.out _ HBD.out).mono ?_|with_reducible refine (HI1.out _ HBE.out).mono ?_|with_reducible refine (HI1.out _ HBD.out).mono ?_);rintro e w6 ⟨rfl,hb6⟩;have EY:Lay w6 q1 (.int .i64 (n:Int)) (.string S0):=(by first|exact EY.below hb6|exact DY.below hb6);have EZ:Lay w6 q2 (.int .i64 (n:Int)) (.string S1):=(by first|exact EZ.below hb6|exact DZ.below hb6);have HBE:Hid (Below w.heap.size w w6):=(by first|exact HBE.out.trans (hb6.mono HBE.out.size)|exact HBD.out.trans (hb6.mono HBD.out.size));clear hb6))
   all_goals
    have p2:w6.cell? ⟨b,o,none⟩=some (.bool true):=by rw [HBE.out.cell (lt_of_cell p0)];exact p0
    go_wp2
    go_ret
    exact ⟨ret_int (by first|exact hbit|rfl),HBE.out⟩
 ·clear HT0 hc1
  cases q
  ·have HD:Hid (dc (false :: r) F=(r0||r1)):=by
    show _=_
    rw [dc,HR0.out,HR1.out]
    rfl
   have hbit:bits .or .i64 (r0.toNat:Int) (r1.toNat:Int)=(((r0||r1).toNat:Nat):Int):=by cases r0<;>cases r1<;>rfl
   generalize r.length=n at *
   have hb1:(1:Int)<=(n:Int)+1:=by omega
   have HI0:Hid _:=fun W=>HI.out W S0 r0 (Or.inl ⟨rfl,rfl⟩)
   have HI1:Hid _:=fun W=>HI.out W S1 r1 (Or.inr ⟨rfl,rfl⟩)
   clear HI
   obtain ⟨W0,hW0⟩:∃ W0,W0=w.alloc (.cells #[.int .i64 ((n:Int)+1),.string S] 26):=⟨_,rfl⟩
   have HX0:Hid (Lay W0 w.heap.size (.int .i64 ((n:Int)+1)) (.string S)):=by rw [hW0];exact Lay.made _ _ _ _
   have HB0:Hid (Below w.heap.size w W0):=by rw [hW0];exact (Below.refl _ _).alloc (Nat.le_refl _) _
   have HW0:Hid (w.alloc (.cells #[.int .i64 ((n:Int)+1),.string S] 26)=W0):=hW0.symm
   clear hW0
   rw [HD.out]
   clear HD HR0 HR1
   go_enter Try.func34,Try.ntmps34
   go_upto_region 1 with fail
   rw [HW0.out]
   clear HW0
   obtain ⟨x0,x1,_,_⟩:=HX0.out
   go_wp2_with fail
   refine (HH0.out _).mono ?_
   rintro e w1 ⟨rfl,hb⟩
   have HB1:Hid (Below w.heap.size w w1):=HB0.out.trans (hb.mono HB0.out.size)
   have HX1:Hid (Lay w1 w.heap.size (.int .i64 ((n:Int)+1)) (.string S)):=HX0.out.below hb
   clear hb x0 x1 HX0 HB0
   obtain ⟨W1,hW1⟩:∃ W1,W1=w1.alloc (.cells #[.int .i64 (n:Int),.string S0] 26):=⟨_,rfl⟩
   have HX2:Hid (Lay W1 w.heap.size (.int .i64 ((n:Int)+1)) (.string S)):=by rw [hW1];exact HX1.out.alloc _
   have HY2:Hid (Lay W1 w1.heap.size (.int .i64 (n:Int)) (.string S0)):=by rw [hW1];exact Lay.made _ _ _ _
   have HB2:Hid (Below w.heap.size w W1):=by rw [hW1];exact HB1.out.alloc HB1.out.size _
   have HW1:Hid (w1.alloc (.cells #[.int .i64 (n:Int),.string S0] 26)=W1):=hW1.symm
   clear hW1 HX1 HB1
   go_upto_region 4 with fail
   rw [HW1.out]
   generalize hq1:w1.heap.size=q1 at *
   clear hq1 HW1
   obtain ⟨x0,x1,_,_⟩:=HX2.out
   go_wp2_with fail
   refine (HH1.out _).mono ?_
   rintro e w2 ⟨rfl,hb⟩
   have HB3:Hid (Below w.heap.size w w2):=HB2.out.trans (hb.mono HB2.out.size)
   have HY3:Hid (Lay w2 q1 (.int .i64 (n:Int)) (.string S0)):=HY2.out.below hb
   clear hb x0 x1 HX2 HB2 HY2
   obtain ⟨W2,hW2⟩:∃ W2,W2=w2.alloc (.cells #[.int .i64 (n:Int),.string S1] 26):=⟨_,rfl⟩
   have HY4:Hid (Lay W2 q1 (.int .i64 (n:Int)) (.string S0)):=by rw [hW2];exact HY3.out.alloc _
   have HZ4:Hid (Lay W2 w2.heap.size (.int .i64 (n:Int)) (.string S1)):=by rw [hW2];exact Lay.made _ _ _ _
   have HB4:Hid (Below w.heap.size w W2):=by rw [hW2];exact HB3.out.alloc HB3.out.size _
   have HW2:Hid (w2.alloc (.cells #[.int .i64 (n:Int),.string S1] 26)=W2):=hW2.symm
   clear hW2 HY3 HB3
   go_upto_region 5 with fail
   rw [HW2.out]
   generalize hq2:w2.heap.size=q2 at *
   clear hq2 HW2
   have DY:Lay W2.drew q1 (.int .i64 (n:Int)) (.string S0):=HY4.out.kept (S:=fun _=>False) (Kept.refl _ _).drew (fun h=>h)
   have DZ:Lay W2.drew q2 (.int .i64 (n:Int)) (.string S1):=HZ4.out.kept (S:=fun _=>False) (Kept.refl _ _).drew (fun h=>h)
   have HBD:Hid (Below w.heap.size w W2.drew):=HB4.out.drew
   have p1:W2.drew.cell? ⟨b,o,none⟩=some (.bool false):=by rw [HBD.out.cell (lt_of_cell p0)];exact p0
   go_region_held3 (fun w'=>w'.cell? ⟨q1,0,none⟩=some (.int .i64 (n:Int))/\w'.cell? ⟨q1,1,none⟩=some (.string S0)/\w'.cell? ⟨q2,0,none⟩=some (.int .i64 (n:Int))/\w'.cell? ⟨q2,1,none⟩=some (.string S1)) ((first|exact ⟨EY.c0,EY.c1,EZ.c0,EZ.c1⟩|exact ⟨DY.c0,DY.c1,DZ.c0,DZ.c1⟩)) ((go_at_call 34;(first|with_reducible refine (HI0.out _ HBE.out).mono ?_|with_reducible refine (HI0.out _ HBD.out).mono ?_|with_reducible refine (HI1.out _ HBE.out).mono ?_|with_reducible refine (HI1.out _ HBD.out).mono ?_);rintro e w6 ⟨rfl,hb6⟩;have EY:Lay w6 q1 (.int .i64 (n:Int)) (.string S0):=(by first|exact EY.below hb6|exact DY.below hb6);have EZ:Lay w6 q2 (.int .i64 (n:Int)) (.string S1):=(by first|exact EZ.below hb6|exact DZ.below hb6);have HBE:Hid (Below w.heap.size w w6):=(by first|exact HBE.out.trans (hb6.mono HBE.out.size)|exact HBD.out.trans (hb6.mono HBD.out.size));clear hb6))
   all_goals
    have p2:w6.cell? ⟨b,o,none⟩=some (.bool false):=by rw [HBE.out.cell (lt_of_cell p0)];exact p0
    go_wp2
    go_ret
    exact ⟨ret_int (by first|exact hbit|rfl),HBE.out⟩
  ·have HD:Hid (dc (true :: r) F=(r0&&r1)):=by
    show _=_
    rw [dc,HR0.out,HR1.out]
    rfl
   have hbit:bits .and .i64 (r0.toNat:Int) (r1.toNat:Int)=(((r0&&r1).toNat:Nat):Int):=by cases r0<;>cases r1<;>rfl
   generalize r.length=n at *
   have hb1:(1:Int)<=(n:Int)+1:=by omega
   have HI0:Hid _:=fun W=>HI.out W S0 r0 (Or.inl ⟨rfl,rfl⟩)
   have HI1:Hid _:=fun W=>HI.out W S1 r1 (Or.inr ⟨rfl,rfl⟩)
   clear HI
   obtain ⟨W0,hW0⟩:∃ W0,W0=w.alloc (.cells #[.int .i64 ((n:Int)+1),.string S] 26):=⟨_,rfl⟩
   have HX0:Hid (Lay W0 w.heap.size (.int .i64 ((n:Int)+1)) (.string S)):=by rw [hW0];exact Lay.made _ _ _ _
   have HB0:Hid (Below w.heap.size w W0):=by rw [hW0];exact (Below.refl _ _).alloc (Nat.le_refl _) _
   have HW0:Hid (w.alloc (.cells #[.int .i64 ((n:Int)+1),.string S] 26)=W0):=hW0.symm
   clear hW0
   rw [HD.out]
   clear HD HR0 HR1
   go_enter Try.func34,Try.ntmps34
   go_upto_region 1 with fail
   rw [HW0.out]
   clear HW0
   obtain ⟨x0,x1,_,_⟩:=HX0.out
   go_wp2_with fail
   refine (HH0.out _).mono ?_
   rintro e w1 ⟨rfl,hb⟩
   have HB1:Hid (Below w.heap.size w w1):=HB0.out.trans (hb.mono HB0.out.size)
   have HX1:Hid (Lay w1 w.heap.size (.int .i64 ((n:Int)+1)) (.string S)):=HX0.out.below hb
   clear hb x0 x1 HX0 HB0
   obtain ⟨W1,hW1⟩:∃ W1,W1=w1.alloc (.cells #[.int .i64 (n:Int),.string S0] 26):=⟨_,rfl⟩
   have HX2:Hid (Lay W1 w.heap.size (.int .i64 ((n:Int)+1)) (.string S)):=by rw [hW1];exact HX1.out.alloc _
   have HY2:Hid (Lay W1 w1.heap.size (.int .i64 (n:Int)) (.string S0)):=by rw [hW1];exact Lay.made _ _ _ _
   have HB2:Hid (Below w.heap.size w W1):=by rw [hW1];exact HB1.out.alloc HB1.out.size _
   have HW1:Hid (w1.alloc (.cells #[.int .i64 (n:Int),.string S0] 26)=W1):=hW1.symm
   clear hW1 HX1 HB1
   go_upto_region 4 with fail
   rw [HW1.out]
   generalize hq1:w1.heap.size=q1 at *
   clear hq1 HW1
   obtain ⟨x0,x1,_,_⟩:=HX2.out
   go_wp2_with fail
   refine (HH1.out _).mono ?_
   rintro e w2 ⟨rfl,hb⟩
   have HB3:Hid (Below w.heap.size w w2):=HB2.out.trans (hb.mono HB2.out.size)
   have HY3:Hid (Lay w2 q1 (.int .i64 (n:Int)) (.string S0)):=HY2.out.below hb
   clear hb x0 x1 HX2 HB2 HY2
   obtain ⟨W2,hW2⟩:∃ W2,W2=w2.alloc (.cells #[.int .i64 (n:Int),.string S1] 26):=⟨_,rfl⟩
   have HY4:Hid (Lay W2 q1 (.int .i64 (n:Int)) (.string S0)):=by rw [hW2];exact HY3.out.alloc _
   have HZ4:Hid (Lay W2 w2.heap.size (.int .i64 (n:Int)) (.string S1)):=by rw [hW2];exact Lay.made _ _ _ _
   have HB4:Hid (Below w.heap.size w W2):=by rw [hW2];exact HB3.out.alloc HB3.out.size _
   have HW2:Hid (w2.alloc (.cells #[.int .i64 (n:Int),.string S1] 26)=W2):=hW2.symm
   clear hW2 HY3 HB3
   go_upto_region 5 with fail
   rw [HW2.out]
   generalize hq2:w2.heap.size=q2 at *
   clear hq2 HW2
   have DY:Lay W2.drew q1 (.int .i64 (n:Int)) (.string S0):=HY4.out.kept (S:=fun _=>False) (Kept.refl _ _).drew (fun h=>h)
   have DZ:Lay W2.drew q2 (.int .i64 (n:Int)) (.string S1):=HZ4.out.kept (S:=fun _=>False) (Kept.refl _ _).drew (fun h=>h)
   have HBD:Hid (Below w.heap.size w W2.drew):=HB4.out.drew
   have p1:W2.drew.cell? ⟨b,o,none⟩=some (.bool true):=by rw [HBD.out.cell (lt_of_cell p0)];exact p0
   go_region_held3 (fun w'=>w'.cell? ⟨q1,0,none⟩=some (.int .i64 (n:Int))/\w'.cell? ⟨q1,1,none⟩=some (.string S0)/\w'.cell? ⟨q2,0,none⟩=some (.int .i64 (n:Int))/\w'.cell? ⟨q2,1,none⟩=some (.string S1)) ((first|exact ⟨EY.c0,EY.c1,EZ.c0,EZ.c1⟩|exact ⟨DY.c0,DY.c1,DZ.c0,DZ.c1⟩)) ((go_at_call 34;(first|with_reducible refine (HI0.out _ HBE.out).mono ?_|with_reducible refine (HI0.out _ HBD.out).mono ?_|with_reducible refine (HI1.out _ HBE.out).mono ?_|with_reducible refine (HI1.out _ HBD.out).mono ?_);rintro e w6 ⟨rfl,hb6⟩;have EY:Lay w6 q1 (.int .i64 (n:Int)) (.string S0):=(by first|exact EY.below hb6|exact DY.below hb6);have EZ:Lay w6 q2 (.int .i64 (n:Int)) (.string S1):=(by first|exact EZ.below hb6|exact DZ.below hb6);have HBE:Hid (Below w.heap.size w w6):=(by first|exact HBE.out.trans (hb6.mono HBE.out.size)|exact HBD.out.trans (hb6.mono HBD.out.size));clear hb6))
   all_goals
    have p2:w6.cell? ⟨b,o,none⟩=some (.bool true):=by rw [HBE.out.cell (lt_of_cell p0)];exact p0
    go_wp2
    go_ret
    exact ⟨ret_int (by first|exact hbit|rfl),HBE.out⟩
end Dm2
end Go.Proofs.Ytfhdbcfhhbdiiaa
