import Derived.Test.YtfhdbcfhhbdiiaaPkXW19
namespace Go.Proofs.Ytfhdbcfhhbdiiaa
set_option maxRecDepth 100000
set_option maxHeartbeats 8000000
set_option linter.unusedVariables false
namespace Dv0
open Go.RowKit
open Ta1 Ta3 De0
/-- The verdict where the first k bits have the values that p tells. -/
def dcAt (row:List Bool) (F:Nat->Bool) (k p:Nat):Bool:=dc (row.drop k) fun q=>F (p*2 ^ (row.length - k)+q)
theorem dcAt_0 (row:List Bool) (F:Nat->Bool):dcAt row F 0 0=dc row F:=by
 unfold dcAt
 rw [List.drop_zero]
 refine dc_ext row fun q _=>?_
 rw [Nat.zero_mul,Nat.zero_add]
theorem dcAt_end (row:List Bool) (F:Nat->Bool) (p:Nat):dcAt row F row.length p=F p:=by
 unfold dcAt
 rw [List.drop_length,Nat.sub_self]
 show F (p*2 ^ 0+0)=F p
 rw [Nat.pow_zero,Nat.mul_one,Nat.add_zero]
theorem dcAt_half {row:List Bool} {k:Nat} (h:k < row.length) (F:Nat->Bool) (p b:Nat) :
 dc (row.drop (k+1)) (hb (row.drop (k+1)).length b fun q=>F (p*2 ^ (row.length - k)+q))=dcAt row F (k+1) (2*p+b):=by
 unfold dcAt
 refine dc_ext _ fun q _=>?_
 show F (p*2 ^ (row.length - k)+(b*2 ^ (row.drop (k+1)).length+q))=F ((2*p+b)*2 ^ (row.length - (k+1))+q)
 have e:row.length - k=(row.length - (k+1))+1:=by omega
 rw [List.length_drop,e,Nat.pow_succ,Nat.add_mul,Nat.mul_comm 2 p,Nat.mul_assoc p 2,Nat.mul_comm 2,Nat.add_assoc]
theorem dcAt_step {row:List Bool} {k:Nat} (h:k < row.length) (F:Nat->Bool) (p:Nat) :
 dcAt row F k p=if row[k]=true then dcAt row F (k+1) (2*p)&&dcAt row F (k+1) (2*p+1) else dcAt row F (k+1) (2*p)||dcAt row F (k+1) (2*p+1):=by
 have h0:_=dcAt row F (k+1) (2*p):=dcAt_half h F p 0
 have h1:=dcAt_half h F p 1
 rw [<- h0,<- h1]
 conv=>lhs;unfold dcAt
 rw [List.drop_eq_getElem_cons h]
 rfl
theorem dcAt_ext (row:List Bool) {F G:Nat->Bool} (h:∀ p,p < 2 ^ row.length->F p=G p) {k p:Nat} (hk:k<=row.length) (hp:p < 2 ^ k):dcAt row F k p=dcAt row G k p:=by
 unfold dcAt
 refine dc_ext _ fun q hq=>h _ ?_
 rw [List.length_drop] at hq
 have e:2 ^ row.length=2 ^ k*2 ^ (row.length - k):=by rw [<- Nat.pow_add];congr 1;omega
 rw [e]
 have h1:p*2 ^ (row.length - k)<=(2 ^ k - 1)*2 ^ (row.length - k):=Nat.mul_le_mul_right _ (by omega)
 have h2:(2 ^ k - 1)*2 ^ (row.length - k)=2 ^ k*2 ^ (row.length - k) - 2 ^ (row.length - k):=by rw [Nat.sub_mul,Nat.one_mul]
 have h3:2 ^ (row.length - k)<=2 ^ k*2 ^ (row.length - k):=Nat.le_mul_of_pos_left _ (Nat.two_pow_pos k)
 omega
theorem or_bit (p b:Nat) (hb:b<=1):2*p ||| b=2*p+b:=by
 have:=Nat.two_pow_add_eq_or_of_lt (b:=b) (i:=1) (by omega) p
 rw [Nat.pow_one] at this
 exact this.symm
/-- The least value of a bit whose half is worth v. -/
def fst (x y:Bool) (v:Int):Int:=if (x.toNat:Int)=v then 0 else if (y.toNat:Int)=v then 1 else -1
end Dv0
namespace Tc1
open Go.RowKit
open Ta0 Ta1
theorem ret_int {k:IntKind} {a b:Int} (h:a=b):Ending.returned (.int k a)=.returned (.int k b):=by rw [h]
theorem msk85:msk 85 8=6148914691236517205:=by decide
theorem msk51:msk 51 8=3689348814741910323:=by decide
theorem msk15:msk 15 8=1085102592571150095:=by decide
theorem and_le_sum (x m:Nat):x &&& m<=m:=Nat.and_le_right
theorem ones (x:Nat) (hx:x < 18446744073709551616) (w:World) :
 Calls Try.prog 89 #[.int .u64 (x:Int)] w fun e w'=>e=.returned (.int .i64 (cnt x.testBit 64:Nat))/\w'=w:=by
 obtain ⟨y,hy⟩:∃ y,y=(x / 2 &&& msk 85 8)+(x &&& msk 85 8):=⟨_,rfl⟩
 obtain ⟨z,hz⟩:∃ z,z=(y / 4 &&& msk 51 8)+(y &&& msk 51 8):=⟨_,rfl⟩
 obtain ⟨t,ht⟩:∃ t,t=(z / 16+z) &&& msk 15 8:=⟨_,rfl⟩
 obtain ⟨u,hu⟩:∃ u,u=t+t / 256:=⟨_,rfl⟩
 obtain ⟨v,hv⟩:∃ v,v=u+u / 65536:=⟨_,rfl⟩
 obtain ⟨r,hr⟩:∃ r,r=v+v / 4294967296:=⟨_,rfl⟩
 obtain ⟨hr1,hr2⟩:=pop64 x y z t u v r hx hy hz ht hu hv hr
 have HR:Hid (r % 128=cnt x.testBit 64):=hr2
 rw [msk85] at hy
 rw [msk51] at hz
 rw [msk15] at ht
 have y1:y < 18446744073709551616:=by
  have h1:=and_le_sum (x / 2) 6148914691236517205
  have h2:=and_le_sum x 6148914691236517205
  omega
 have z1:z < 9223372036854775807:=by
  have h1:=and_le_sum (y / 4) 3689348814741910323
  have h2:=and_le_sum y 3689348814741910323
  omega
 have t1:t<=1085102592571150095:=by rw [ht];exact and_le_sum _ _
 have e1:IntKind.u64.wrap (bits .and .u64 ((x:Int) / 2) 6148914691236517205+bits .and .u64 (x:Int) 6148914691236517205)=(y:Int):=by
  have h1:=bits_and_u64_nat (x / 2) 6148914691236517205 (by omega) (by omega)
  have h2:=bits_and_u64_nat x 6148914691236517205 hx (by omega)
  have e:(x:Int) / 2=((x / 2:Nat):Int):=by omega
  rw [e,show (6148914691236517205:Int)=((6148914691236517205:Nat):Int) from rfl,h1,h2,<- Int.natCast_add,<- hy,wrapu y1]
 have e2:IntKind.u64.wrap (bits .and .u64 ((y:Int) / 4) 3689348814741910323+bits .and .u64 (y:Int) 3689348814741910323)=(z:Int):=by
  have h1:=bits_and_u64_nat (y / 4) 3689348814741910323 (by omega) (by omega)
  have h2:=bits_and_u64_nat y 3689348814741910323 y1 (by omega)
  have e:(y:Int) / 4=((y / 4:Nat):Int):=by omega
  rw [e,show (3689348814741910323:Int)=((3689348814741910323:Nat):Int) from rfl,h1,h2,<- Int.natCast_add,<- hz,wrapu (by omega)]
 have e3:bits .and .u64 (IntKind.u64.wrap ((z:Int) / 16+(z:Int))) 1085102592571150095=(t:Int):=by
  have h1:=bits_and_u64_nat (z / 16+z) 1085102592571150095 (by omega) (by omega)
  have e:(z:Int) / 16+(z:Int)=((z / 16+z:Nat):Int):=by omega
  rw [e,wrapu (by omega),show (1085102592571150095:Int)=((1085102592571150095:Nat):Int) from rfl,h1,<- ht]
 have e3':bits .and .u64 ((z:Int) / 16+(z:Int)) 1085102592571150095=(t:Int):=by
  rw [<- e3,show (z:Int) / 16+(z:Int)=((z / 16+z:Nat):Int) by omega,wrapu (by omega)]
 have e4':(t:Int)+(t:Int) / 256=(u:Int):=by omega
 have e5':(u:Int)+(u:Int) / 65536=(v:Int):=by omega
 have e6':(v:Int)+(v:Int) / 4294967296=(r:Int):=by omega
 have e4:IntKind.u64.wrap ((t:Int)+(t:Int) / 256)=(u:Int):=by
  rw [show (t:Int)+(t:Int) / 256=(u:Int) by omega,wrapu (by omega)]
 have e5:IntKind.u64.wrap ((u:Int)+(u:Int) / 65536)=(v:Int):=by
  rw [show (u:Int)+(u:Int) / 65536=(v:Int) by omega,wrapu (by omega)]
 have e6:IntKind.u64.wrap ((v:Int)+(v:Int) / 4294967296)=(r:Int):=by
  rw [show (v:Int)+(v:Int) / 4294967296=(r:Int) by omega,wrapu (by omega)]
 have r1:r < 2 ^ 62:=by omega
 have HE:Hid (bits .and .i64 (r:Int) 127=((cnt x.testBit 64:Nat):Int)):=by
  show _=_
  rw [show (127:Int)=((127:Nat):Int) from rfl,band62 r1 (by omega),<- HR.out,show (127:Nat)=2 ^ 7 - 1 from rfl,Nat.and_two_pow_sub_one_eq_mod]
 have e7:wrap64 (r:Int)=(r:Int):=by unfold wrap64;omega
 have e8:IntKind.u64.wrap (r:Int)=(r:Int):=wrapu (by omega)
 have hy0:Hid (y=(x / 2 &&& 6148914691236517205)+(x &&& 6148914691236517205)):=hy
 clear hy hz ht hu hv hr HR hy0 hr2
 generalize cnt x.testBit 64=c at HE ⊢
 go_enter Try.func89,Try.ntmps89
 go_wp2
 go_ret
 exact ⟨ret_int HE.out,rfl⟩
end Tc1
end Go.Proofs.Ytfhdbcfhhbdiiaa
