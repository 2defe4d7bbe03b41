import Derived.WalkKit
import Derived.Laws.Bits64
import Derived.Laws.Bits64b
import Derived.Test.YtfhdbcfhhbdiiaaTa0
namespace Go.Proofs.Ytfhdbcfhhbdiiaa
set_option maxRecDepth 100000
set_option maxHeartbeats 8000000
set_option linter.unusedVariables false
namespace Ta1
open Go.RowKit
open Ta0
/-- The sign of a bit. -/
def sgn (b:Bool):UInt8:=if b then 49 else 48
theorem sgn_inj {a b:Bool} (h:sgn a=sgn b):a=b:=by
 cases a<;>cases b<;>first|rfl|(exfalso;revert h;decide)
theorem sgn_toNat (b:Bool):(sgn b).toNat=48+b.toNat:=by cases b<;>rfl
/-- The table of n bits that has F's bits. -/
def tab (n:Nat) (F:Nat->Bool):List UInt8:=(List.range (2 ^ n)).map fun i=>sgn (F i)
theorem tab_length (n:Nat) (F:Nat->Bool):(tab n F).length=2 ^ n:=by simp [tab]
theorem tab_get (n:Nat) (F:Nat->Bool) (i:Nat) (h:i < (tab n F).length):(tab n F)[i]=sgn (F i):=by simp [tab]
theorem tab_ext {n:Nat} {F G:Nat->Bool} (h:∀ i,i < 2 ^ n->F i=G i):tab n F=tab n G:=by
 unfold tab
 refine List.map_congr_left fun i hi=>?_
 rw [h i (List.mem_range.1 hi)]
theorem tab_inj {n:Nat} {F G:Nat->Bool} (h:tab n F=tab n G):∀ i,i < 2 ^ n->F i=G i:=by
 intro i hi
 have h1:=tab_get n F i (by rw [tab_length];exact hi)
 have h2:=tab_get n G i (by rw [tab_length];exact hi)
 refine sgn_inj ?_
 rw [<- h1,<- h2]
 congr 1
theorem list_tab {n:Nat} {F:Nat->Bool} {l:List UInt8} (hl:l.length=2 ^ n) (h:∀ i (hi:i < l.length),l[i]=sgn (F i)):l=tab n F :=
 List.ext_getElem (by rw [tab_length,hl]) fun i h1 h2=>by rw [h i h1,tab_get]
/-- What TableOk asks. -/
def tokB (N:Int) (l:List UInt8):Bool:=decide (0<=N/\N<=12/\l.length=2 ^ N.toNat/\∀ c∈l,c=48\/c=49)
theorem tok_tab {N:Int} {l:List UInt8} (h:tokB N l=true):∃ (n:Nat) (F:Nat->Bool),n<=12/\N=(n:Int)/\l=tab n F:=by
 obtain ⟨h0,h1,h2,h3⟩:=of_decide_eq_true h
 refine ⟨N.toNat,fun i=>l.getD i 48==49,by omega,by omega,list_tab h2 fun i hi=>?_⟩
 have e:l.getD i 48=l[i]:=by simp [List.getD,hi]
 show _=sgn (l.getD i 48==49)
 rw [e]
 rcases h3 l[i] (List.getElem_mem hi) with h|h<;>rw [h]<;>rfl
theorem tab_tok {n:Nat} (F:Nat->Bool) (hn:n<=12):tokB (n:Int) (tab n F)=true:=by
 refine decide_eq_true ⟨by omega,by omega,by rw [tab_length,Int.toNat_natCast],fun c hc=>?_⟩
 obtain ⟨i,_,rfl⟩:=List.mem_map.1 hc
 cases F i
 ·exact .inl rfl
 ·exact .inr rfl
theorem tok_no {N:Int} {l:List UInt8} (h:¬ (0<=N/\N<=12)):tokB N l=false:=decide_eq_false fun k=>h ⟨k.1,k.2.1⟩
theorem tok_len {N:Int} {l:List UInt8} (h:l.length≠2 ^ N.toNat):tokB N l=false:=decide_eq_false fun k=>h k.2.2.1
theorem tok_sign {N:Int} {l:List UInt8} {c:UInt8} (hc:c∈l) (h:c≠48/\c≠49):tokB N l=false:=decide_eq_false fun k=>by
 rcases k.2.2.2 c hc with e|e
 ·exact h.1 e
 ·exact h.2 e
theorem p12 {n:Nat} (h:n<=12):1<=2 ^ n/\2 ^ n<=4096:=⟨Nat.one_le_two_pow,Nat.pow_le_pow_right (by omega) h⟩
theorem p12z {n:Nat} (h:n<=12):(1:Int)<=(2:Int) ^ n/\(2:Int) ^ n<=4096:=by
 have:=p12 h
 have e:((2 ^ n:Nat):Int)=(2:Int) ^ n:=by push_cast;rfl
 omega
theorem pcast (n:Nat):(2:Int) ^ n=((2 ^ n:Nat):Int):=by push_cast;rfl
theorem band62 {m n:Nat} (hm:m < 2 ^ 62) (hn:n < 2 ^ 62):bits .and .i64 (m:Int) (n:Int)=((m &&& n:Nat):Int):=by
 have e:bits .and .i64 (m:Int) (n:Int)=IntKind.i64.wrap ((BitVec.ofInt 64 (m:Int) &&& BitVec.ofInt 64 (n:Int)).toNat:Int):=rfl
 have h:=Nat.and_lt_two_pow m hn
 rw [e,BitVec.toNat_and,BitVec.ofInt_natCast,BitVec.ofInt_natCast,BitVec.toNat_ofNat,BitVec.toNat_ofNat,Nat.mod_eq_of_lt (by omega),Nat.mod_eq_of_lt (by omega),IntKind.wrap_i64]
 omega
theorem bor62 {m n:Nat} (hm:m < 2 ^ 62) (hn:n < 2 ^ 62):bits .or .i64 (m:Int) (n:Int)=((m ||| n:Nat):Int):=by
 have e:bits .or .i64 (m:Int) (n:Int)=IntKind.i64.wrap ((BitVec.ofInt 64 (m:Int) ||| BitVec.ofInt 64 (n:Int)).toNat:Int):=rfl
 have h:=Nat.or_lt_two_pow hm hn
 rw [e,BitVec.toNat_or,BitVec.ofInt_natCast,BitVec.ofInt_natCast,BitVec.toNat_ofNat,BitVec.toNat_ofNat,Nat.mod_eq_of_lt (by omega),Nat.mod_eq_of_lt (by omega),IntKind.wrap_i64]
 omega
theorem bxor62 {m n:Nat} (hm:m < 2 ^ 62) (hn:n < 2 ^ 62):bits .xor .i64 (m:Int) (n:Int)=((m ^^^ n:Nat):Int):=by
 have e:bits .xor .i64 (m:Int) (n:Int)=IntKind.i64.wrap ((BitVec.ofInt 64 (m:Int) ^^^ BitVec.ofInt 64 (n:Int)).toNat:Int):=rfl
 have h:=Nat.xor_lt_two_pow hm hn
 rw [e,BitVec.toNat_xor,BitVec.ofInt_natCast,BitVec.ofInt_natCast,BitVec.toNat_ofNat,BitVec.toNat_ofNat,Nat.mod_eq_of_lt (by omega),Nat.mod_eq_of_lt (by omega),IntKind.wrap_i64]
 omega
theorem wrapu {x:Nat} (h:x < 18446744073709551616):IntKind.u64.wrap (x:Int)=(x:Int):=by rw [IntKind.wrap_u64];omega
end Ta1
end Go.Proofs.Ytfhdbcfhhbdiiaa
