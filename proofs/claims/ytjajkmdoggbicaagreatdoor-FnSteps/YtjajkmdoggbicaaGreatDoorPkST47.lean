import Derived.Test.YtjajkmdoggbicaaGreatDoorRows
import Derived.ArgAppend
import Derived.Laws.IdiomCopy
import Derived.Laws.IdiomStrings
import Derived.Test.YtjajkmdoggbicaaGreatDoorZs6
import Derived.Test.YtjajkmdoggbicaaGreatDoorPkST26
import Derived.Test.YtjajkmdoggbicaaGreatDoorPkST7
import Derived.Test.YtjajkmdoggbicaaGreatDoorPkST4
namespace Go.Proofs.YtjajkmdoggbicaaGreatDoor
set_option maxRecDepth 100000
set_option maxHeartbeats 8000000
set_option linter.unusedVariables false
namespace Zs7
open Go.RowKit
open Nd0 (Kept lt_of_cell)
open Ss0 (bs)
open Mm0 (Mc Mb Mr Mok mval)
open Tk0 (TabK)
open Zs0 Zs5 Zs6 Zt0
/-- The variables that errors.As wants besides. -/
structure TabE (w:World):Prop where
 tab:TabZ w
 ety:w.cell? ⟨0,0,none⟩=some (.iface 165 (.agg #[.pointer (some ⟨9,63,none⟩)]))
theorem TabE.below {w w':World} (h:TabE w) (k:Below w.heap.size w w'):TabE w' :=
 ⟨h.tab.below k,by rw [k.cell (p:=⟨_,0,none⟩) (lt_of_cell h.ety)];exact h.ety⟩
/-- What SaveMachine comes to. -/
def SvP (m:Mc) (e:Ending):Prop:=e=.returned (.tuple #[.string (svS m),.bool (svB m)])
theorem SvP.yes {m:Mc} (h:svB m=true) {S:ByteArray} (hS:S=bs (savT m)):SvP m (.returned (.tuple #[.string S,.bool true])):=by
 unfold SvP svS
 rw [h,if_pos rfl,hS]
theorem SvP.no {m:Mc} (h:svB m=false):SvP m (.returned (.tuple #[.string ⟨#[]⟩,.bool false])):=by
 unfold SvP svS
 rw [h,if_neg (by simp)]
theorem iSave (m:Mc) (ra va ma:Option Addr) (rc vc mc:Nat) (w:World) (hR:Mr w m ra va ma) (hS:m.S.size<=1048576) (hK:∀ x∈m.memo,x.k.size<=1048576) (hT:TabE w) :
 Calls Tryz.prog 10 #[mval m ra va ma rc vc mc] w fun e w'=>SvP m e/\Below w.heap.size w w':=by
 obtain ⟨X0,hX0⟩:∃ X,X=w.alloc (.cells #[.slice ra m.row.length rc,.int .i64 m.N,.string m.S,.int .i64 m.room,.slice va m.vals.length vc,.int .i64 m.ret,.bool m.over,.int .i64 m.steps,.int .i64 m.looks,.int .i64 m.hits,.slice ma m.memo.length mc] 30):=⟨_,rfl⟩
 have b0:Below w.heap.size w X0:=by rw [hX0];exact (Below.refl _ _).alloc (Nat.le_refl _) _
 have HB0:Hid (Below w.heap.size w X0):=b0
 have HM0:Hid (Mb X0 w.heap.size m ra va ma rc vc mc):=by rw [hX0];exact Mb.made _ _ _ _ _ _ _ _ _
 have hE:w.alloc (.cells #[.slice ra m.row.length rc,.int .i64 m.N,.string m.S,.int .i64 m.room,.slice va m.vals.length vc,.int .i64 m.ret,.bool m.over,.int .i64 m.steps,.int .i64 m.looks,.int .i64 m.hits,.slice ma m.memo.length mc] 30)=X0:=hX0.symm
 have HT:Hid (TabE w):=hT
 have HST:Hid _:=iSaved m ra va ma rc vc mc X0 (hR.below b0) hS hK (hT.tab.below b0)
 clear hX0 b0 hT hR hS hK
 go_enter Tryz.func10,Tryz.ntmps10
 go_upto_region 1 with fail
 clear hE
 obtain ⟨m0,m1,m2,m3,m4,m5,m6,m7,m8,m9,m10⟩:=HM0.out
 go_wp2_with fail
 clear m0 m1 m2 m3 m4 m5 m6 m7 m8 m9 m10
 refine Calls.mono HST.out ?_
 rintro e w1 ⟨hst,hb⟩
 have HB1:Hid (Below w.heap.size w w1):=HB0.out.trans (hb.mono HB0.out.size)
 clear hb
 rcases hst with ⟨hv,rfl⟩|⟨hv,x,rfl⟩
 ·have HV:Hid (svB m=true):=hv
  obtain ⟨R,hR⟩:∃ R,R=bs (savT m):=⟨_,rfl⟩
  have HR:Hid (R=bs (savT m)):=hR
  rw [<- hR]
  clear hR hv
  go_wp2_with fail
  refine (iRefusal0 _).mono ?_
  rintro e w2 ⟨rfl,hb⟩
  have HB2:Hid (Below w.heap.size w w2):=HB1.out.trans (hb.mono HB1.out.size)
  clear hb
  go_wp2
  go_ret2
  exact ⟨SvP.yes HV.out HR.out,HB2.out⟩
 ·have HV:Hid (svB m=false):=hv
  clear hv
  go_wp2_with fail
  refine (iRefusal x _ (HT.out.below HB1.out).ety).mono ?_
  rintro e w2 ⟨rfl,hb⟩
  have HB2:Hid (Below w.heap.size w w2):=HB1.out.trans (hb.mono HB1.out.size)
  clear hb
  go_wp2
  go_ret2
  exact ⟨SvP.no HV.out,HB2.out⟩
end Zs7
namespace Zm0
open Go.RowKit
open Nd0 (Kept Ints lt_of_cell)
open Tx0 Zs0
open Ss0 (bs bs_size bs_app ret_str digit_cut)
open Ss1 (tl tl_length tl_take tl_get tl_bs)
open Tc2 (ret_bool sInT sInF)
open Ta2 (bitB)
open Wp1 (vt dgt bit_two)
open Tk0 (itoa_dec)
open Zs1 (pl_no pl_end)
theorem sDecN (n:Nat) (w:World) (h:n < 10000000000) :
 Calls Tryz.prog 35 #[.int .i64 n] w fun e w'=>e=.returned (.string (bs (dec n)))/\w'=w:=by
 by_cases h0:n=0
 ·subst h0
  go_enter Tryz.func35,Tryz.ntmps35
  go_wp2
  go_ret
  exact ⟨rfl,rfl⟩
 ·have hz:¬ (n:Int)=0:=by omega
  go_enter Tryz.func35,Tryz.ntmps35
  go_wp2
  go_loop [3,4] (fun o m=>∃ (k:Nat) (s:List UInt8),k<=n/\m=.int .i64 k/\o=.string (bs s)/\digs n=digs k++s/\s.length+(digs k).length<=10) (fun _ m=>(intOf m).toNat)
  case atStart=>exact ⟨n,[],Nat.le_refl _,rfl,rfl,by simp,by have:=digs_len 10 n h;simpa using this⟩
  case round =>
   obtain ⟨k,s,hk,rfl,rfl,hd,hl⟩:=hrel
   have HD:Hid (digs n=digs k++s):=hd
   clear hd
   by_cases hk0:k=0
   ·subst hk0
    have HE:Hid (bs s=bs (dec n)):=by
     show _=_
     unfold dec
     rw [if_neg h0,HD.out,digs_zero];rfl
    have hnn:¬ (n:Int) < 0:=by omega
    go_wp2
    go_ret
    exact ⟨ret_str HE.out,rfl⟩
   ·have hkz:¬ (k:Int)=0:=by omega
    have hr1:0<=(k:Int) % 10:=by omega
    have hr2:(k:Int) % 10 < 10:=by omega
    have hr3:¬ (k:Int) % 10 < 0:=by omega
    have hss:(bs s).size<=10:=by rw [bs_size];omega
    have hp:=digs_pos (n:=k) (by omega)
    have HN:Hid (digs n=digs (k / 10)++(UInt8.ofNat (48+k % 10) :: s)):=by
     show _=_
     rw [HD.out,hp];simp
    have HL:Hid ((UInt8.ofNat (48+k % 10) :: s).length+(digs (k / 10)).length<=10):=by
     show _<=_
     rw [hp] at hl
     simp at hl ⊢;omega
    clear hp
    go_wp2
    go_round
    case rel=>exact ⟨k / 10,UInt8.ofNat (48+k % 10) :: s,by omega,by go_num,by rw [digit_cut _ (by omega),bs_app];rfl,HN.out,HL.out⟩
    case measure=>simp [intOf];omega
theorem sDecM (w:World):Calls Tryz.prog 35 #[.int .i64 (-1)] w fun e w'=>e=.returned (.string (bs [45,49]))/\w'=w:=by
 go_enter Tryz.func35,Tryz.ntmps35
 go_wp2
 go_loop [3,4] (fun o m=>(m=.int .i64 (-1)/\o=.string ⟨#[]⟩)\/(m=.int .i64 0/\o=.string ⟨#[49]⟩)) (fun _ m=>(- intOf m).toNat)
 case atStart=>exact .inl ⟨rfl,rfl⟩
 case round =>
  rcases hrel with ⟨rfl,rfl⟩|⟨rfl,rfl⟩
  ·go_wp2
   go_round
   case rel=>exact .inr ⟨by go_num,rfl⟩
   case measure=>simp [intOf]
  ·go_wp2
   go_ret
   exact ⟨rfl,rfl⟩
theorem sDecI (n:Int) (h0 : -1<=n) (h1:n<=1000000000) (w:World) :
 Calls Tryz.prog 35 #[.int .i64 n] w fun e w'=>e=.returned (.string (bs (Lib.itoa n)))/\w'=w:=by
 by_cases h:n = -1
 ·subst h;rw [itoa_neg];exact sDecM w
 ·obtain ⟨k,rfl⟩:=Int.eq_ofNat_of_zero_le (by omega:0<=n)
  rw [itoa_dec]
  exact sDecN k w (by omega)
theorem sBool (b:Bool) (w:World):Calls Tryz.prog 37 #[.bool b] w fun e w'=>e=.returned (.int .i64 (bI b))/\w'=w:=by
 cases b
 ·go_enter Tryz.func37,Tryz.ntmps37
  go_wp2
  go_ret
  exact ⟨rfl,rfl⟩
 ·go_enter Tryz.func37,Tryz.ntmps37
  go_wp2
  go_ret
  exact ⟨rfl,rfl⟩
theorem itoa_bit {x:Int} (h:bitB x=true):Lib.itoa x=[dgt x]:=by
 rcases bit_two h with rfl|rfl<;>decide +kernel
theorem sVals (w:World) (a:Option Addr) (l:List Int) (c:Nat) (h:Ints w a l) (hl:l.length<=12) (hb:∀ b∈l,bitB b=true) :
 Calls Tryz.prog 36 #[.slice a l.length c] w fun e w'=>e=.returned (.string (bs (vt l)))/\w'=w:=by
 have H:Hid (Ints w a l):=h
 have HBT:Hid (∀ b∈l,bitB b=true):=hb
 clear h hb
 obtain ⟨n,hn⟩:∃ n,n=l.length:=⟨_,rfl⟩
 rw [<- hn]
 have hn2:n<=12:=by omega
 have HN:Hid (n=l.length):=hn
 obtain ⟨TK,hTK⟩:∃ TK:Nat->List UInt8,TK=fun k=>(l.take k).map dgt:=⟨_,rfl⟩
 have HTK:Hid (TK=fun k=>(l.take k).map dgt):=hTK
 have HTL:Hid (∀ k,k<=n->(TK k).length=k):=by intro k hk;rw [hTK];simp;omega
 have HT0:Hid (TK 0=[]):=by show _=_;rw [hTK];rfl
 clear hn hl hTK
 go_enter Tryz.func36,Tryz.ntmps36
 go_wp2
 go_loop [3,4] (fun v i=>∃ k:Nat,k<=n/\i=.int .i64 k/\v=.string (bs (TK k))) (fun _ i=>n - (intOf i).toNat)
 case atStart=>exact ⟨0,Nat.zero_le _,rfl,by rw [HT0.out];rfl⟩
 case round =>
  obtain ⟨k,hk,rfl,rfl⟩:=hrel
  by_cases hlt:k < n
  ·have hlz:(k:Int) < (n:Int):=by omega
   have hkl:k < l.length:=by have:=HN.out;omega
   obtain ⟨b,o,ha,hc⟩:∃ b o,a=some ⟨b,o,none⟩/\w.cell? ⟨b,o+k,none⟩=some (.int .i64 l[k]):=by
    rcases H.out.2 with e|⟨b,o,e,hc⟩
    ·omega
    ·exact ⟨b,o,e,hc k hkl⟩
   subst ha
   have HBK:Hid (bitB l[k]=true):=HBT.out _ (List.getElem_mem hkl)
   have HNX:Hid (TK (k+1)=TK k++[dgt l[k]]):=by
    show _=_
    rw [HTK.out]
    show (l.take (k+1)).map dgt=(l.take k).map dgt++[dgt l[k]]
    rw [List.take_succ_eq_append_getElem hkl,List.map_append]
    rfl
   generalize l[k]=x at *
   have HDE:Hid (∀ W,Calls Tryz.prog 35 #[.int .i64 x] W fun e w'=>e=.returned (.string (bs [dgt x]))/\w'=W):=fun W=>by
    have:=sDecI x (by rcases bit_two HBK.out with e|e<;>omega) (by rcases bit_two HBK.out with e|e<;>omega) W
    rwa [itoa_bit HBK.out] at this
   obtain ⟨T,hT⟩:∃ T,T=bs (TK k):=⟨_,rfl⟩
   have hTz:T.size<=12:=by rw [hT,bs_size,HTL.out k hk];omega
   obtain ⟨D,hD⟩:∃ D,D=bs [dgt x]:=⟨_,rfl⟩
   have hDz:D.size=1:=by rw [hD,bs_size];rfl
   have HTD:Hid (T++D=bs (TK (k+1))):=by show _=_;rw [hT,hD,HNX.out,bs_app]
   rw [<- hD] at HDE
   rw [<- hT]
   have hsz:¬ 9223372036854775807 < T.size+D.size:=by omega
   clear hT hD hDz
   go_wp2_with (go_at_call 35;refine (HDE.out _).mono ?_;rintro e w2 ⟨rfl,hw2⟩;have hw2':=hw2.symm;clear hw2;subst hw2')
   go_round
   case rel=>exact ⟨k+1,by omega,by go_num,by rw [HTD.out]⟩
   case measure=>simp [intOf];omega
  ·have hlz:¬ (k:Int) < (n:Int):=by omega
   have hT:TK k=l.map dgt:=by
    rw [HTK.out]
    show (l.take k).map dgt=_
    rw [List.take_of_length_le (by have:=HN.out;omega)]
   obtain ⟨T,hTT⟩:∃ T,T=bs (TK k):=⟨_,rfl⟩
   rw [<- hTT]
   by_cases h0:l=[]
   ·have hz:(T.toList==[])=true:=Ss1.eql_true (by rw [hTT,hT,h0];rfl)
    have HR:Hid (⟨#[45]⟩=bs (vt l)):=by show _=_;rw [h0];rfl
    clear h0 hT hTT
    go_wp2
    go_ret
    exact ⟨ret_str HR.out,rfl⟩
   ·have hz:(T.toList==[])=false:=Ss1.eql_false (by rw [hTT,tl_bs,hT];simpa using h0)
    have HR:Hid (T=bs (vt l)):=by show _=_;rw [hTT,hT];unfold vt;rw [if_neg h0]
    clear h0 hT hTT
    go_wp2
    go_ret
    exact ⟨ret_str HR.out,rfl⟩
theorem sPlain (S:ByteArray) (w:World) (hS:S.size<=1048576) :
 Calls Tryz.prog 38 #[.string S] w fun e w'=>e=.returned (.bool (plB (tl S)))/\w'=w:=by
 have HLEN:Hid ((tl S).length=S.size):=tl_length S
 go_enter Tryz.func38,Tryz.ntmps38
 go_wp2
 go_loop [3] (fun i=>∃ k:Nat,k<=S.size/\i=.int .i64 k/\∀ c∈(tl S).take k,isDig c=true\/c=58) (fun i=>S.size - (intOf i).toNat)
 case atStart=>exact ⟨0,Nat.zero_le _,rfl,fun c hc=>by simp at hc⟩
 case round =>
  obtain ⟨k,hk,rfl,hg⟩:=hrel
  have HG:Hid (∀ c∈(tl S).take k,isDig c=true\/c=58):=hg
  clear hg
  by_cases hlt:k < S.size
  ·have hlz:(k:Int) < (S.size:Int):=by omega
   have HX:Hid ((tl S).take (k+1)=(tl S).take k++[S[k]]):=tl_take S k hlt
   have HM:Hid (S[k]∈tl S):=by
    show _∈_
    rw [tl_get S k hlt];exact List.getElem_mem _
   have hb1:(S[k].toNat:Int) < 256:=by have:=S[k].toNat_lt;omega
   have hw1:wrap64 (S[k].toNat:Int)=(S[k].toNat:Int):=by unfold wrap64;omega
   have hw2:IntKind.i64.wrap (S[k].toNat:Int)=(S[k].toNat:Int):=by rw [IntKind.wrap_i64];omega
   by_cases h8:S[k]=58
   ·have b8:((S[k].toNat:Int) != 58)=false:=by rw [h8];rfl
    have H8:Hid (isDig S[k]=true\/S[k]=58):=.inr h8
    clear h8
    go_wp2
    go_round
    case rel=>exact ⟨k+1,by omega,by go_num,fun c hc=>by
     rw [HX.out] at hc
     rcases List.mem_append.1 hc with h|h
     ·exact HG.out c h
     ·rw [List.mem_singleton.1 h];exact H8.out⟩
    case measure=>simp [intOf];omega
   ·have b8:((S[k].toNat:Int) != 58)=true:=bne_iff_ne.2 fun e=>h8 (UInt8.toNat_inj.1 (by have:(58:UInt8).toNat=58:=rfl;omega))
    cases hd:isDig S[k]
    ·have hin:¬ ((48:Int)<=(S[k].toNat:Int)/\(S[k].toNat:Int)<=57):=fun e=>by
      have:isDig S[k]=true:=decide_eq_true (by omega)
      rw [hd] at this;cases this
     have HF:Hid (plB (tl S)=false):=pl_no HM.out hd h8
     clear h8 hd
     go_wp2_with (go_at_call 29;refine (sInF _ hin).mono ?_;rintro e w2 ⟨rfl,hw2⟩;have hw2':=hw2.symm;clear hw2;subst hw2')
     go_ret
     exact ⟨ret_bool HF.out.symm,rfl⟩
    ·have hin:(48:Int)<=(S[k].toNat:Int)/\(S[k].toNat:Int)<=57:=by have:=of_decide_eq_true hd;omega
     have H8:Hid (isDig S[k]=true\/S[k]=58):=.inl hd
     clear h8 hd
     go_wp2_with (go_at_call 29;refine (sInT _ hin).mono ?_;rintro e w2 ⟨rfl,hw2⟩;have hw2':=hw2.symm;clear hw2;subst hw2')
     go_round
     case rel=>exact ⟨k+1,by omega,by go_num,fun c hc=>by
      rw [HX.out] at hc
      rcases List.mem_append.1 hc with h|h
      ·exact HG.out c h
      ·rw [List.mem_singleton.1 h];exact H8.out⟩
     case measure=>simp [intOf];omega
  ·have hlz:¬ (k:Int) < (S.size:Int):=by omega
   have HE:Hid (plB (tl S)=decide (tl S≠[])):=by
    have hg:=HG.out
    rw [List.take_of_length_le (by have:=HLEN.out;omega)] at hg
    exact pl_end hg
   by_cases h0:0 < S.size
   ·have hz:(0:Int) < (S.size:Int):=by omega
    have HF:Hid (plB (tl S)=true):=by
     show _=_
     rw [HE.out]
     refine decide_eq_true (fun e=>?_)
     have:=HLEN.out
     rw [e] at this
     simp at this
     omega
    go_wp2
    go_ret
    exact ⟨ret_bool HF.out.symm,rfl⟩
   ·have hz:¬ (0:Int) < (S.size:Int):=by omega
    have HF:Hid (plB (tl S)=false):=by
     show _=_
     rw [HE.out]
     refine decide_eq_false (fun e=>e (List.eq_nil_of_length_eq_zero ?_))
     have:=HLEN.out
     omega
    go_wp2
    go_ret
    exact ⟨ret_bool HF.out.symm,rfl⟩
end Zm0
namespace Zb0
open Go.RowKit
open Nd0 (Kept lt_of_cell)
open Ap9 (infoByte)
open Ss0 (bs bs_size)
open Ss1 (tl tl_get tl_bs)
/-- The bytes l lie in block g, with room for cap of them. -/
structure LieB (w:World) (g cap:Nat) (l:List UInt8):Prop where
 lt:g < w.heap.size
 le:l.length<=cap
 cell:∀ j (h:j < l.length),w.cell? ⟨g,j,none⟩=some (.int .u8 (l[j].toNat:Int))
 has:∀ j,j < cap->(w.cell? ⟨g,j,none⟩).isSome=true
 free:∀ j,j < cap->w.frozen? ⟨g,j,none⟩=false
theorem LieB.kept {w w':World} {g cap:Nat} {l:List UInt8} (h:LieB w g cap l) {S:Nat->Prop} (k:Kept S w w') (hs:¬ S g):LieB w' g cap l :=
 ⟨Nat.lt_of_lt_of_le h.lt k.size,h.le,fun j hj=>by rw [k.cell (p:=⟨g,j,none⟩) h.lt hs];exact h.cell j hj,fun j hj=>by rw [k.cell (p:=⟨g,j,none⟩) h.lt hs];exact h.has j hj,fun j hj=>by rw [k.frozen (p:=⟨g,j,none⟩) h.lt hs];exact h.free j hj⟩
theorem LieB.below {w w':World} {g cap:Nat} {l:List UInt8} (h:LieB w g cap l) (k:Below w.heap.size w w'):LieB w' g cap l:=h.kept (S:=fun _=>False) (Kept.ofBelow k) (fun h=>h)
def bc (l:List UInt8):List Value:=l.map fun x=>.int .u8 (x.toNat:Int)
theorem bc_len (l:List UInt8):(bc l).length=l.length:=List.length_map ..
theorem bc_app (l m:List UInt8):bc (l++m)=bc l++bc m:=List.map_append ..
theorem bc_get {l:List UInt8} {j:Nat} (h:j < l.length):(bc l)[j]? = some (.int .u8 (l[j].toNat:Int)):=by
 unfold bc
 rw [List.getElem?_map,List.getElem?_eq_getElem h]
 rfl
theorem LieB.text {W:World} {g c:Nat} {l:List UInt8} (h:LieB W g c l):(convert 22 9 (.slice (some ⟨g,0,none⟩) l.length c)).run Tryz.prog W=.ok (.string (bs l)) W :=
 run_convert_bytes_back (P:=Tryz.prog) W 22 9 5 ⟨g,0,none⟩ c l Tryz.underlying22 Tryz.underlying5 Tryz.underlying9 (fun j hj=>by rw [Addr.add_lit,Nat.zero_add];exact h.cell j hj)
/-- The bytes of a string. -/
theorem bytesB (w:World) (l:List UInt8):∃ (c:Nat) (W:World),(convert 9 22 (.string (bs l))).run Tryz.prog w=.ok (.slice (some ⟨w.heap.size,0,none⟩) l.length c) W/\LieB W w.heap.size c l/\Below w.heap.size w W:=by
 have h:=run_bytes_of_string (P:=Tryz.prog) w 9 22 5 (bs l) Tryz.underlying9 Tryz.underlying22 Tryz.underlying5
 rw [bs_size] at h
 have hge:=grownCap_ge w l.length 0 5
 have hds:(bs l).data.size=l.length:=bs_size l
 have hbz:(bs l).size=l.length:=bs_size l
 have hsz:(bytesRow (bs l) (grownCap w l.length 0 5)).size=grownCap w l.length 0 5:=by
  unfold bytesRow
  simp [Array.size_append,Array.size_map]
  omega
 have e:(w.drew.alloc (.cells (bytesRow (bs l) (grownCap w l.length 0 5)) 5 ((bytesRow (bs l) (grownCap w l.length 0 5)).size,(bytesRow (bs l) (grownCap w l.length 0 5)).size+1))).heap[w.heap.size]? = some (.cells (bytesRow (bs l) (grownCap w l.length 0 5)) 5 ((bytesRow (bs l) (grownCap w l.length 0 5)).size,(bytesRow (bs l) (grownCap w l.length 0 5)).size+1)):=by
  show (w.heap.push _)[w.heap.size]? = _
  simp
 refine ⟨_,_,h,⟨by simp,hge,fun j hj=>?_,fun j hj=>?_,fun j hj=>?_⟩,(Below.refl _ _).drew.alloc (Nat.le_refl _) _⟩
 ·have hj2:j < (bs l).data.size:=by omega
  rw [cell_of_row _ _ j _ _ _ e,bytesRow_at _ _ j hj2]
  have:(bs l).data[j]=l[j]:=by
   have h1:=tl_get (bs l) j hj2
   have e2:tl (bs l)=l:=tl_bs l
   simp only [e2] at h1
   exact h1
  rw [this]
  rfl
 ·rw [cell_of_row _ _ j _ _ _ e,Array.getElem?_eq_getElem (by rw [hsz];exact hj)]
  rfl
 ·unfold World.frozen?
  rw [e]
  simp
  omega
theorem kept_sets (w:World) (g o:Nat) (vs:List Value):Kept (fun k=>k=g) w (w.setCells g o vs):=by
 have h:=World.keptBut_setCells g (may:=fun p=>p.block=g) vs o w (fun _ _=>rfl)
 induction vs generalizing o w with
 | nil=>exact Kept.refl _ _
 | cons v r ih =>
   have h1:Kept (fun k=>k=g) w (w.setCell ⟨g,o,none⟩ v):=(Kept.refl (fun k=>k=g) w).setCell (p:=⟨g,o,none⟩) rfl _
   exact h1.trans (ih (w.setCell ⟨g,o,none⟩ v) (o+1) (World.keptBut_setCells g (may:=fun p=>p.block=g) r (o+1) _ (fun _ _=>rfl)))
theorem LieB.room {w:World} {g cap:Nat} {l:List UInt8} (h:LieB w g cap l) (ys:List UInt8) (hr:l.length+ys.length<=cap):LieB (w.setCells g l.length (bc ys)) g cap (l++ys):=by
 have hh:∀ j,j < (bc ys).length->(w.cell? ⟨g,l.length+j,none⟩).isSome=true:=fun j hj=>h.has _ (by rw [bc_len] at hj;omega)
 refine ⟨Nat.lt_of_lt_of_le h.lt (kept_sets w g _ _).size,by rw [List.length_append];exact hr,fun j hj=>?_,fun j hj=>?_,fun j hj=>by rw [World.frozen?_setCells];exact h.free j hj⟩
 ·by_cases e:j < l.length
  ·rw [World.cell?_setCells_out g _ _ _ ⟨g,j,none⟩ (fun _ _=>.inl e),h.cell j e,List.getElem_append_left e]
  ·have hj2:j - l.length < ys.length:=by rw [List.length_append] at hj;omega
   have h1:=World.cell?_setCells_in g (bc ys) l.length w hh (j - l.length) (by rw [bc_len];exact hj2)
   rw [show l.length+(j - l.length)=j by omega] at h1
   rw [h1,List.getElem_append_right (by omega)]
   have h2:=bc_get hj2
   rw [List.getElem?_eq_getElem (by rw [bc_len];exact hj2)] at h2
   exact h2
 ·by_cases e:j < l.length\/l.length+(bc ys).length<=j
  ·rw [World.cell?_setCells_out g _ _ _ ⟨g,j,none⟩ (fun _ _=>e)];exact h.has j hj
  ·have h1:=World.cell?_setCells_in g (bc ys) l.length w hh (j - l.length) (by omega)
   rw [show l.length+(j - l.length)=j by omega] at h1
   rw [h1]
   rfl
theorem run_by (W:World) (ty:TypeId) (g cap:Nat) (l ys:List UInt8) (G c:Nat) (hy:∀ j (h:j < ys.length),W.cell? ⟨G,j,none⟩=some (.int .u8 (ys[j].toNat:Int))) (hown:LieB W g cap l) (hlen:l.length+ys.length<=100000000) :
 ∃ g' cap' w',(Builtin.append_ #[22,22] ty #[.slice (some ⟨g,0,none⟩) l.length cap,.slice (some ⟨G,0,none⟩) ys.length c]).run Tryz.prog W=.ok (.slice (some ⟨g',0,none⟩) (l.length+ys.length) cap') w' /\
  LieB w' g' cap' (l++ys)/\Kept (fun k=>k=g) W w'/\(g'=g\/W.heap.size<=g'):=by
 obtain ⟨i,hi,hzz⟩:=Option.map_eq_some_iff.1 infoByte
 simp only [Prod.mk.injEq] at hzz
 obtain ⟨hz,hsz,hb⟩:=hzz
 have hnews:∀ j u,(bc ys)[j]? = some u->W.cell? ((⟨G,0,none⟩:Addr).add j)=some u:=by
  intro j u hu
  have hj:j < ys.length:=by have:=(List.getElem?_eq_some_iff.1 hu).1;rwa [bc_len] at this
  rw [Addr.add_lit,Nat.zero_add,hy j hj,<- hu,bc_get hj]
 have h1:∀ u∈bc ys,u.oneCell'=true:=by
  intro u hu
  obtain ⟨x,_,rfl⟩:=List.mem_map.1 hu
  rfl
 by_cases hr:l.length+ys.length<=cap
 ·have hrun:=run_append_room_cells (P:=Tryz.prog) W 22 ty 5 i Tryz.underlying22 hi g 0 l.length cap ⟨G,0,none⟩ ys.length c (bc ys) (by rw [hsz,bc_len];omega) hnews h1 hr
   (fun j hj=>by rw [bc_len] at hj;rw [hsz];rw [show 0+l.length*1+j=l.length+j by omega];exact hown.has _ (by omega)) (fun j hj=>by rw [bc_len] at hj;rw [hsz];rw [show 0+l.length*1+j=l.length+j by omega];exact hown.free _ (by omega))
  rw [hsz,show 0+l.length*1=l.length by omega] at hrun
  exact ⟨g,cap,_,hrun,hown.room ys hr,kept_sets W g _ _,.inl rfl⟩
 ·obtain ⟨v',w',hrun,r1,r2⟩:=run_append_arg_grows (P:=Tryz.prog) W 22 ty 5 i _ 1 1 Tryz.underlying22 hi hz hsz hb rfl (by omega) ⟨g,0,none⟩ l.length cap (bc l) (by rw [bc_len];omega)
   (fun j u hu=>by
    have hj:j < l.length:=by have:=(List.getElem?_eq_some_iff.1 hu).1;rwa [bc_len] at this
    rw [Addr.add_lit,Nat.zero_add,hown.cell j hj,<- hu,bc_get hj]) ⟨G,0,none⟩ ys.length c (bc ys) (by rw [bc_len];omega) hnews (by omega) (by unfold maxLen;omega) (by omega)
  rw [<- bc_app] at r1
  have hK:Kept (fun k=>k=g) W w':=⟨r2.os,r2.tape,r2.output,r2.size,fun k hk _=>r2.block k hk (by simp)⟩
  obtain ⟨_,h2⟩:=r1
  rcases h2 with ⟨_,h0⟩|⟨g',cap',cur,rfl,hb',hg',hn,hm,hs,ht⟩
  ·omega
  ·refine ⟨g',cap',w',hrun,⟨(Array.getElem?_eq_some_iff.1 hg').1,by rw [List.length_append];exact hn,fun j hj=>?_,fun j hj=>?_,fun j hj=>?_⟩,hK,.inr hb'⟩
   ·rw [List.length_append] at hj
    rw [cell_of_row _ _ j _ _ _ hg']
    have e1:(cur.toList.take ((l.length+ys.length)*1))[j]? = some (.int .u8 ((l++ys)[j].toNat:Int)):=by rw [ht,bc_get (by rw [List.length_append];exact hj)]
    rw [List.getElem?_take_of_lt (by omega)] at e1
    simpa using e1
   ·rw [cell_of_row _ _ j _ _ _ hg',Array.getElem?_eq_getElem (by omega)]
    rfl
   ·simp [World.frozen?,hg']
/-- The same at a step of a region that draws. -/
theorem step_by {ops:Array Oper} {o:Oper} {a:Act} {K:Act->World->Prop} {Q:Exit->Act->World->Prop} {E:Prop} (W:World) (hgd:o.guard=none) (s x:Operand)
 (ho:o.op=.call { callee:=.builtin .append,args := #[s,x],argTypes := #[22,22] })
 (g cap n G c m:Nat) (l ys:List UInt8) (hn:l.length=n) (hm:ys.length=m) (hs:a.eval s=.slice (some ⟨g,0,none⟩) n cap) (hx:a.eval x=.slice (some ⟨G,0,none⟩) m c)
 (hy:∀ j (h:j < ys.length),W.cell? ⟨G,j,none⟩=some (.int .u8 (ys[j].toNat:Int))) (hown:LieB W g cap l) (hlen:l.length+ys.length<=100000000)
 (h:∀ g' cap' w',LieB w' g' cap' (l++ys)->Kept (fun k=>k=g) W w'->(g'=g\/W.heap.size<=g')->K (a.put o.dst (.slice (some ⟨g',0,none⟩) (n+m) cap')) w') :
 if Region.wanted o (yielded ops a.tmps)=true then Oper.wp Tryz.prog o a W K Q else E:=by
 have hw:Region.wanted o (yielded ops a.tmps)=true:=by simp [Region.wanted,hgd]
 rw [if_pos hw]
 subst hn hm
 obtain ⟨g',cap',w',hrun,q1,q2,q3⟩:=run_by W o.type g cap l ys G c hy hown hlen
 unfold Oper.wp
 simp [execOp,ho,resolve,invoke,builtin,hs,hx,hrun,Result.andThen]
 exact h g' cap' w' q1 q2 q3
end Zb0
end Go.Proofs.YtjajkmdoggbicaaGreatDoor
