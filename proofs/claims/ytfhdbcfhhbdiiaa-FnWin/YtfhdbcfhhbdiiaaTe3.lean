import Derived.Test.YtfhdbcfhhbdiiaaPkXW28
namespace Go.Proofs.Ytfhdbcfhhbdiiaa
set_option maxRecDepth 100000
set_option maxHeartbeats 8000000
set_option linter.unusedVariables false
namespace Te3
open Go.RowKit
open Ta0 Ta1 Ta2 Tc2 Tc4 Tc5 Tc6 Tc7 Tc8 Tc10 Td1 Td2 Te1
open Nd0 (Kept Ints set_other set_same lt_of_cell)
open Ss0 (bs bs_size ret_str bs_ext)
open Ss1 (tl tl_length tl_get tl_take bs_tl tl_bs tl_inj eqb)
theorem iHalf0 {N b:Int} {S:ByteArray} (w:World) (hS:S.size<=1048576) (h:¬ (tokB N (tl S)=true/\N≠0/\bitB b=true)) :
 Calls Try.prog 57 #[tv N S,.int .i64 b] w fun e w'=>e=.returned (.tuple #[tv 0 ByteArray.empty,.bool false])/\Below w.heap.size w w':=by
 have HA:Hid (Below w.heap.size w ((w.alloc (.cells #[.int .i64 N,.string S] 26)).alloc (.cells #[.int .i64 0,.string ByteArray.empty] 26))):=((Below.refl _ _).alloc (Nat.le_refl _) _).alloc (by simp) _
 have HX:Hid (Lay ((w.alloc (.cells #[.int .i64 N,.string S] 26)).alloc (.cells #[.int .i64 0,.string ByteArray.empty] 26)) w.heap.size (.int .i64 N) (.string S)):=(Lay.made _ _ _ _).alloc _
 have HR:Hid (Lay ((w.alloc (.cells #[.int .i64 N,.string S] 26)).alloc (.cells #[.int .i64 0,.string ByteArray.empty] 26)) (w.heap.size+1) (.int .i64 0) (.string ByteArray.empty)):=by
  have:=Lay.made (w.alloc (.cells #[.int .i64 N,.string S] 26)) (.int .i64 0) (.string ByteArray.empty) 26
  show Lay _ _ _ _
  simpa using this
 cases h1:tokB N (tl S)
 ·have HO:Hid (∀ W,Calls Try.prog 68 #[tv N S] W fun e w'=>e=.returned (.bool false)/\Below W.heap.size W w'):=fun W=>iOk0 W hS h1
  clear h h1
  go_enter Try.func57,Try.ntmps57
  go_wp2_with fail
  refine (HO.out _).mono ?_
  rintro e w1 ⟨rfl,hb⟩
  have HA1:Hid (Below w.heap.size w w1):=HA.out.trans (hb.mono HA.out.size)
  have HR1:Hid (Lay w1 (w.heap.size+1) (.int .i64 0) (.string ByteArray.empty)):=HR.out.below hb
  clear hb
  obtain ⟨r0,r1,r2,r3⟩:=HR1.out
  have HFN:Hid _:=finT HR1.out HA1.out (by omega) (.int .i64 0) (.string ⟨#[]⟩)
  go_wp2
  obtain ⟨W,hW,hz,hbz⟩:=HFN.out
  rw [<- hW]
  obtain ⟨z0,z1,_,_⟩:=hz
  exact bodyPost_ret (v:=.tuple #[tv 0 ⟨#[]⟩,.bool false]) (by simp [results,Try.results57,go_sem,z0,z1]) rfl ⟨rfl,hbz⟩
 have HO:Hid (∀ W,Calls Try.prog 68 #[tv N S] W fun e w'=>e=.returned (.bool true)/\Below W.heap.size W w'):=fun W=>by
  have:=iTableOk N S W hS
  rwa [h1] at this
 by_cases hN:N=0
 ·have hNb:(N==0)=true:=by rw [hN];rfl
  clear h h1 hN
  go_enter Try.func57,Try.ntmps57
  go_wp2_with fail
  refine (HO.out _).mono ?_
  rintro e w1 ⟨rfl,hb⟩
  have HA1:Hid (Below w.heap.size w w1):=HA.out.trans (hb.mono HA.out.size)
  have HR1:Hid (Lay w1 (w.heap.size+1) (.int .i64 0) (.string ByteArray.empty)):=HR.out.below hb
  obtain ⟨x0,x1,_,_⟩:=HX.out.below hb
  clear hb
  obtain ⟨r0,r1,r2,r3⟩:=HR1.out
  have HFN:Hid _:=finT HR1.out HA1.out (by omega) (.int .i64 0) (.string ⟨#[]⟩)
  go_wp2
  obtain ⟨W,hW,hz,hbz⟩:=HFN.out
  rw [<- hW]
  obtain ⟨z0,z1,_,_⟩:=hz
  exact bodyPost_ret (v:=.tuple #[tv 0 ⟨#[]⟩,.bool false]) (by simp [results,Try.results57,go_sem,z0,z1]) rfl ⟨rfl,hbz⟩
 ·have hNb:(N==0)=false:=beq_eq_false_iff_ne.2 hN
  have HI:Hid (∀ W,Calls Try.prog 54 #[.int .i64 b] W fun e w'=>e=.returned (.bool false)/\w'=W):=fun W=>by
   have hb0:bitB b=false:=by
    cases hB:bitB b
    ·rfl
    ·exact absurd ⟨h1,hN,hB⟩ h
   have:=iBitOk b W
   rwa [hb0] at this
  clear h h1 hN
  go_enter Try.func57,Try.ntmps57
  go_wp2_with fail
  refine (HO.out _).mono ?_
  rintro e w1 ⟨rfl,hb⟩
  have HA1:Hid (Below w.heap.size w w1):=HA.out.trans (hb.mono HA.out.size)
  have HR1:Hid (Lay w1 (w.heap.size+1) (.int .i64 0) (.string ByteArray.empty)):=HR.out.below hb
  obtain ⟨x0,x1,_,_⟩:=HX.out.below hb
  clear hb
  obtain ⟨r0,r1,r2,r3⟩:=HR1.out
  have HFN:Hid _:=finT HR1.out HA1.out (by omega) (.int .i64 0) (.string ⟨#[]⟩)
  go_wp2_with (go_at_call 54;refine (HI.out _).mono ?_;rintro e w' ⟨rfl,rfl⟩)
  obtain ⟨W,hW,hz,hbz⟩:=HFN.out
  rw [<- hW]
  obtain ⟨z0,z1,_,_⟩:=hz
  exact bodyPost_ret (v:=.tuple #[tv 0 ⟨#[]⟩,.bool false]) (by simp [results,Try.results57,go_sem,z0,z1]) rfl ⟨rfl,hbz⟩
theorem iHalf (n b:Nat) (F:Nat->Bool) (w:World) (hn:n<=11) (hb:b<=1) :
 Calls Try.prog 57 #[tv ((n+1:Nat):Int) (bs (tab (n+1) F)),.int .i64 (b:Int)] w fun e w'=>e=.returned (.tuple #[tv (n:Int) (bs (tab n fun p=>F (b*2 ^ n+p))),.bool true])/\Below w.heap.size w w':=by
 have HO:Hid (∀ W,Calls Try.prog 68 #[tv ((n+1:Nat):Int) (bs (tab (n+1) F))] W fun e w'=>e=.returned (.bool true)/\Below W.heap.size W w'):=fun W=>iOk1 (n+1) F W (by omega)
 have HI:Hid (∀ W,Calls Try.prog 54 #[.int .i64 (b:Int)] W fun e w'=>e=.returned (.bool true)/\w'=W):=fun W=>by
  have hb1:bitB (b:Int)=true:=decide_eq_true (by omega)
  have:=iBitOk (b:Int) W
  rwa [hb1] at this
 have HPK:Hid (∀ W,Calls Try.prog 69 #[tv ((n+1:Nat):Int) (bs (tab (n+1) F))] W fun e w'=>∃ g,e=.returned (pv (n+1) (nw (n+1)) g)/\W.heap.size<=g/\Wds w' g (nw (n+1)) (upto (2 ^ (n+1)) F)/\Below W.heap.size W w'):=fun W=>pack (n+1) F W (by omega)
 have HHF:Hid (∀ W g,Wds W g (nw (n+1)) (upto (2 ^ (n+1)) F)->Calls Try.prog 78 #[pv (n+1) (nw (n+1)) g,.int .i64 (b:Int)] W fun e w'=>∃ g2,e=.returned (pv n (nw n) g2)/\W.heap.size<=g2/\Wds w' g2 (nw n) (upto (2 ^ n) fun p=>F (b*2 ^ n+p))/\Below W.heap.size W w'):=fun W g h=>half n g b F W hn hb h
 have HTB:Hid (∀ W g,Wds W g (nw n) (upto (2 ^ n) fun p=>F (b*2 ^ n+p))->Calls Try.prog 79 #[pv n (nw n) g] W fun e w'=>e=.returned (tv (n:Int) (bs (tab n fun p=>F (b*2 ^ n+p))))/\Below W.heap.size W w'):=fun W g h=>by
  have:=table n g _ W (by omega) h
  rwa [tab_upto] at this
 have hNb:(((n+1:Nat):Int)==0)=false:=beq_eq_false_iff_ne.2 (by omega)
 generalize bs (tab n fun p=>F (b*2 ^ n+p))=RS at *
 generalize (upto (2 ^ n) fun p=>F (b*2 ^ n+p))=H at *
 generalize bs (tab (n+1) F)=S at *
 generalize upto (2 ^ (n+1)) F=F1 at *
 generalize nw n=m at *
 generalize nw (n+1)=m2 at *
 generalize n+1=N at *
 have HA:Hid (Below w.heap.size w ((w.alloc (.cells #[.int .i64 (N:Int),.string S] 26)).alloc (.cells #[.int .i64 0,.string ByteArray.empty] 26))):=((Below.refl _ _).alloc (Nat.le_refl _) _).alloc (by simp) _
 have HX:Hid (Lay ((w.alloc (.cells #[.int .i64 (N:Int),.string S] 26)).alloc (.cells #[.int .i64 0,.string ByteArray.empty] 26)) w.heap.size (.int .i64 (N:Int)) (.string S)):=(Lay.made _ _ _ _).alloc _
 have HR:Hid (Lay ((w.alloc (.cells #[.int .i64 (N:Int),.string S] 26)).alloc (.cells #[.int .i64 0,.string ByteArray.empty] 26)) (w.heap.size+1) (.int .i64 0) (.string ByteArray.empty)):=by
  have:=Lay.made (w.alloc (.cells #[.int .i64 (N:Int),.string S] 26)) (.int .i64 0) (.string ByteArray.empty) 26
  show Lay _ _ _ _
  simpa using this
 go_enter Try.func57,Try.ntmps57
 go_wp2_with fail
 refine (HO.out _).mono ?_
 rintro e w1 ⟨rfl,hb⟩
 have HA1:Hid (Below w.heap.size w w1):=HA.out.trans (hb.mono HA.out.size)
 have HR1:Hid (Lay w1 (w.heap.size+1) (.int .i64 0) (.string ByteArray.empty)):=HR.out.below hb
 obtain ⟨x0,x1,_,_⟩:=HX.out.below hb
 clear hb
 go_wp2_with (go_at_call 54;refine (HI.out _).mono ?_;rintro e w' ⟨rfl,hw'⟩;have hw2:=hw'.symm;clear hw';subst hw2)
 refine (HPK.out _).mono ?_
 rintro e w2 ⟨g,rfl,hg,hw,hb⟩
 have HA2:Hid (Below w.heap.size w w2):=HA1.out.trans (hb.mono HA1.out.size)
 have HR2:Hid (Lay w2 (w.heap.size+1) (.int .i64 0) (.string ByteArray.empty)):=HR1.out.below hb
 clear hb x0 x1
 go_wp2_with fail
 refine (HHF.out _ g hw).mono ?_
 rintro e w3 ⟨g2,rfl,hg2,hw2,hb⟩
 have HA3:Hid (Below w.heap.size w w3):=HA2.out.trans (hb.mono HA2.out.size)
 have HR3:Hid (Lay w3 (w.heap.size+1) (.int .i64 0) (.string ByteArray.empty)):=HR2.out.below hb
 clear hb hw
 go_wp2_with fail
 refine (HTB.out _ g2 hw2).mono ?_
 rintro e w4 ⟨rfl,hb⟩
 have HA4:Hid (Below w.heap.size w w4):=HA3.out.trans (hb.mono HA3.out.size)
 have HR4:Hid (Lay w4 (w.heap.size+1) (.int .i64 0) (.string ByteArray.empty)):=HR3.out.below hb
 clear hb hw2
 obtain ⟨r0,r1,r2,r3⟩:=HR4.out
 have HFN:Hid _:=finT HR4.out HA4.out (by omega) (.int .i64 (n:Int)) (.string RS)
 go_wp2
 obtain ⟨W,hW,hz,hbz⟩:=HFN.out
 rw [<- hW]
 obtain ⟨z0,z1,_,_⟩:=hz
 exact bodyPost_ret (v:=.tuple #[tv (n:Int) RS,.bool true]) (by simp [results,Try.results57,go_sem,z0,z1]) rfl ⟨rfl,hbz⟩
theorem or_bit {y x:Nat} (hy:y < 100000) (hx:x<=1):bits .or .i64 ((2*y:Nat):Int) (x:Int)=((2*y+x:Nat):Int):=by
 rw [bor62 (by omega) (by omega)]
 have h:=Nat.two_pow_add_eq_or_of_lt (i:=1) (b:=x) (by omega) y
 rw [show (2:Nat) ^ 1*y=2*y by omega] at h
 rw [h]
theorem iPlaceOf (a:Option Addr) (l:List Int) (c:Nat) (w:World) (hl:l.length<=12) (hI:Ints w a l) :
 Calls Try.prog 65 #[.slice a l.length c] w fun e w'=>(((∀ i,i < l.length->bitB (l.getD i 0)=true)/\e=.returned (.tuple #[.int .i64 ((plc l l.length:Nat):Int),.bool true]))\/((∃ i,i < l.length/\bitB (l.getD i 0)=false)/\e=.returned (.tuple #[.int .i64 0,.bool false])))/\w'=w:=by
 have HI1:Hid (Ints w a l):=hI
 clear hI
 go_enter Try.func65,Try.ntmps65
 go_wp2
 go_loop [4,9] (fun p i=>∃ k:Nat,k<=l.length/\i=.int .i64 k/\p=.int .i64 ((plc l k:Nat):Int)/\∀ j,j < k->bitB (l.getD j 0)=true) (fun _ i=>l.length - (intOf i).toNat)
 case atStart=>exact ⟨0,Nat.zero_le _,rfl,rfl,fun j hj=>by omega⟩
 case round =>
  obtain ⟨k,hk,rfl,rfl,hbt⟩:=hrel
  have hpl:plc l k < 4096+1:=by
   have h1:=plc_lt hbt
   have h2:=(p12 (n:=k) (by omega)).2
   omega
  have HBT:Hid (∀ j,j < k->bitB (l.getD j 0)=true):=hbt
  clear hbt
  by_cases hlt:k < l.length
  ·have hkz:(k:Int) < (l.length:Int):=by omega
   rcases HI1.out.2 with h0|⟨xb,xo,rfl,hc⟩
   ·omega
   have p0:=hc k hlt
   clear hc
   have hgd:l.getD k 0=l[k]:=by simp [List.getD,hlt]
   have HPS:Hid (plc l (k+1)=2*plc l k+(l.getD k 0).toNat):=rfl
   generalize plc l k=y at *
   rw [<- hgd] at p0
   clear hgd
   obtain ⟨x,hx⟩:∃ x,x=l.getD k 0:=⟨_,rfl⟩
   rw [<- hx] at p0 HPS
   have HX:Hid (x=l.getD k 0):=hx
   clear hx
   have HIC:Hid (∀ W,Calls Try.prog 54 #[.int .i64 x] W fun e w'=>e=.returned (.bool (bitB x))/\w'=W):=fun W=>iBitOk x W
   cases hB:bitB x
   ·have HBd:Hid (∃ i,i < l.length/\bitB (l.getD i 0)=false):=⟨k,hlt,by rw [<- HX.out];exact hB⟩
    rw [hB] at HIC
    clear hB
    go_wp2_with (go_at_call 54;refine (HIC.out _).mono ?_;rintro e w' ⟨rfl,rfl⟩)
    go_ret2
    exact ⟨.inr ⟨HBd.out,rfl⟩,rfl⟩
   ·have hx2:=of_decide_eq_true hB
    rw [hB] at HIC
    have HBx:Hid (bitB x=true):=hB
    clear hB
    obtain ⟨b,rfl,hb⟩:∃ b:Nat,x=(b:Int)/\b<=1:=⟨x.toNat,by omega,by omega⟩
    clear hx2
    obtain ⟨z,hz⟩:∃ z:Nat,z=2*y+b:=⟨_,rfl⟩
    have ho:=or_bit (y:=y) (x:=b) (by omega) hb
    rw [<- hz] at ho
    have ho2:bits .or .i64 (2*(y:Int)) (b:Int)=(z:Int):=by rw [<- ho];push_cast;rfl
    have ho3:bits .or .i64 ((y:Int)*2) (b:Int)=(z:Int):=by rw [Int.mul_comm];exact ho2
    have HZ:Hid (z=2*y+b):=hz
    clear hz ho
    go_wp2_with (go_at_call 54;refine (HIC.out _).mono ?_;rintro e w' ⟨rfl,rfl⟩)
    go_round
    case rel=>exact ⟨k+1,by omega,by go_num,by rw [HPS.out,Int.toNat_natCast,<- HZ.out],fun j hj=>by
     by_cases e:j=k
     ·rw [e,<- HX.out];exact HBx.out
     ·exact HBT.out j (by omega)⟩
    case measure=>simp [intOf];omega
  ·have HK:Hid (k=l.length):=by show _=_;omega
   go_wp2
   go_ret2
   exact ⟨.inl ⟨fun i hi=>HBT.out i (by omega),by rw [HK.out];rfl⟩,rfl⟩
theorem iTableAt0 {N:Int} {S:ByteArray} (a:Option Addr) (l:List Int) (c:Nat) (w:World) (hS:S.size<=1048576) (h:tokB N (tl S)=false) :
 Calls Try.prog 39 #[tv N S,.slice a l.length c] w fun e w'=>e=.returned (.int .i64 (-1))/\Below w.heap.size w w':=by
 have HO:Hid (∀ W,Calls Try.prog 68 #[tv N S] W fun e w'=>e=.returned (.bool false)/\Below W.heap.size W w'):=fun W=>iOk0 W hS h
 have HA:Hid (Below w.heap.size w (w.alloc (.cells #[.int .i64 N,.string S] 26))):=(Below.refl _ _).alloc (Nat.le_refl _) _
 clear h
 go_enter Try.func39,Try.ntmps39
 go_wp2_with fail
 refine (HO.out _).mono ?_
 rintro e w1 ⟨rfl,hb⟩
 have HB:Hid (Below w.heap.size w w1):=HA.out.trans (hb.mono HA.out.size)
 clear hb
 go_wp2
 go_ret
 exact ⟨rfl,HB.out⟩
theorem iTableAt (n:Nat) (F:Nat->Bool) (a:Option Addr) (l:List Int) (c:Nat) (w:World) (hn:n<=12) (hI:Ints w a l) :
 Calls Try.prog 39 #[tv (n:Int) (bs (tab n F)),.slice a l.length c] w fun e w'=>e=.returned (.int .i64 (atB n F l))/\Below w.heap.size w w':=by
 have HO:Hid (∀ W,Calls Try.prog 68 #[tv (n:Int) (bs (tab n F))] W fun e w'=>e=.returned (.bool true)/\Below W.heap.size W w'):=fun W=>iOk1 n F W hn
 have HIn:Hid (Ints w a l):=hI
 have hm:=hI.1
 unfold maxLen at hm
 clear hI
 have HPK:Hid (∀ W,Calls Try.prog 69 #[tv (n:Int) (bs (tab n F))] W fun e w'=>∃ g,e=.returned (pv n (nw n) g)/\W.heap.size<=g/\Wds w' g (nw n) (upto (2 ^ n) F)/\Below W.heap.size W w'):=fun W=>pack n F W hn
 have HAT:Hid (∀ (W:World) (g k:Nat),k < 2 ^ n->Wds W g (nw n) (upto (2 ^ n) F)->Calls Try.prog 70 #[pv n (nw n) g,.int .i64 (k:Int)] W fun e w'=>e=.returned (.int .i64 ((F k).toNat:Int))/\Below W.heap.size W w'):=fun W g k h1 h2=>by
  have:=at_ n g k _ W hn h1 h2
  rwa [show upto (2 ^ n) F k=F k by simp [upto,h1]] at this
 have HPL:Hid (l.length=n->(∀ i,i < l.length->bitB (l.getD i 0)=true)->plc l l.length < 2 ^ n):=fun h k=>by
  have:=plc_lt k
  rwa [h] at this ⊢
 generalize upto (2 ^ n) F=F1 at *
 generalize bs (tab n F)=S at *
 generalize 2 ^ n=P at *
 generalize nw n=m at *
 have HL0:Hid (Lay (w.alloc (.cells #[.int .i64 (n:Int),.string S] 26)) w.heap.size (.int .i64 (n:Int)) (.string S)):=Lay.made _ _ _ _
 have HA:Hid (Below w.heap.size w (w.alloc (.cells #[.int .i64 (n:Int),.string S] 26))):=(Below.refl _ _).alloc (Nat.le_refl _) _
 by_cases hln:l.length=n
 ·have hlz:((l.length:Int) != (n:Int))=false:=by rw [hln];simp
  have HLN:Hid (l.length=n):=hln
  have hl12:l.length<=12:=by omega
  clear hln
  go_enter Try.func39,Try.ntmps39
  go_wp2_with fail
  refine (HO.out _).mono ?_
  rintro e w1 ⟨rfl,hb⟩
  have HB:Hid (Below w.heap.size w w1):=HA.out.trans (hb.mono HA.out.size)
  obtain ⟨x0,x1,_,_⟩:=HL0.out.below hb
  clear hb
  go_wp2_with fail
  refine (iPlaceOf a l c _ hl12 (HIn.out.below HB.out)).mono ?_
  rintro e w2 ⟨h,hw⟩
  have hw':=hw.symm
  clear hw
  subst hw'
  rcases h with ⟨hok,rfl⟩|⟨⟨i,hi,hbad⟩,rfl⟩
  ·have HGd:Hid (atB n F l=((F (plc l l.length)).toNat:Int)):=at_good HLN.out hok
   have hpp:=HPL.out HLN.out hok
   clear hok
   generalize plc l l.length=y at *
   go_wp2_with fail
   refine (HPK.out _).mono ?_
   rintro e w3 ⟨g,rfl,hg,hw3,hb⟩
   have HB3:Hid (Below w.heap.size w w3):=HB.out.trans (hb.mono HB.out.size)
   clear hb x0 x1
   go_wp2_with fail
   refine (HAT.out _ g y hpp hw3).mono ?_
   rintro e w4 ⟨rfl,hb⟩
   have HB4:Hid (Below w.heap.size w w4):=HB3.out.trans (hb.mono HB3.out.size)
   clear hb hw3
   go_wp2
   go_ret
   exact ⟨ret_int HGd.out.symm,HB4.out⟩
  ·have HBd:Hid (atB n F l = -1):=at_bad hi hbad
   clear hbad
   go_wp2
   go_ret
   exact ⟨ret_int HBd.out.symm,HB.out⟩
 ·have hlz:((l.length:Int) != (n:Int))=true:=bne_iff_ne.2 (by omega)
  have HLn:Hid (atB n F l = -1):=at_len hln
  clear hln
  go_enter Try.func39,Try.ntmps39
  go_wp2_with fail
  refine (HO.out _).mono ?_
  rintro e w1 ⟨rfl,hb⟩
  have HB:Hid (Below w.heap.size w w1):=HA.out.trans (hb.mono HA.out.size)
  obtain ⟨x0,x1,_,_⟩:=HL0.out.below hb
  clear hb
  go_wp2
  go_ret
  exact ⟨ret_int HLn.out.symm,HB.out⟩
end Te3
end Go.Proofs.Ytfhdbcfhhbdiiaa
