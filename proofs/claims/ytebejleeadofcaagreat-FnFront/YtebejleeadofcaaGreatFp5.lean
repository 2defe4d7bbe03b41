import Derived.Test.YtebejleeadofcaaGreatPkFR45
namespace Go.Proofs.YtebejleeadofcaaGreat
set_option maxRecDepth 100000
set_option maxHeartbeats 8000000
set_option linter.unusedVariables false
namespace Fp5
open Go.RowKit Go.Shelf
open Nd0 Qa0 Pl1 Tm0 Tr0 Rw0 Vl1 Vl2 Vm0 Kp1 Pv6 Pv7 Fr0 Fr1 Qi0 Qi1 Fp4
open Pg1 (iWordOk)
attribute [local go_sem] Oper.semAt_some
theorem kept_put {S:Nat->Prop} {n:Nat} {w:World} (hS:∀ b,n<=b->S b) (hn:n<=w.heap.size) (W:World) (l:Nat) (o o':Obj) (hl:w.heap.size<=l) (h:W.heap[l]? = some o) (_:o.isCells=false) (_:o.isWalk=false):Kept S W (W.putObj l o') :=
 ⟨rfl,rfl,rfl,by simp,fun k _ hk=>World.putObj_heap_other (fun e=>hk (hS k (by omega)))⟩
theorem own_kept {β:Type} {S:Nat->Prop} {B:Nat} {w₀:World} (hB:w₀.heap.size<=B):OwnFrom B (fun (_:β) W=>Kept S w₀ W) :=
 fun _ _ _ _ hs hg hr=>⟨hg.os.trans hs.os,hg.tape.trans hs.tape,hg.output.trans hs.output,Nat.le_trans hs.size hg.size,fun k hk hS=>(hg.block k (Nat.lt_of_lt_of_le hk hs.size) (fun e=>by have:=(hr k e.symm).1;omega)).trans (hs.block k hk hS)⟩
theorem words_kept (n n₀ Bn g:Nat) (b:Int) (h1:1<=b) (h8:b<=8) (w:World) (hB:Bn < n₀) (hg:¬ Bn=g) (hn:n₀<=w.heap.size) (hc:w.cell? ⟨Bn,0,none⟩=some (.int .i64 b)) :
 SeqStopsK Fence.wide n Tryz.prog 82 #[.pointer (some ⟨Bn,0,none⟩)] (fun k:Fin (2 ^ b.toNat) => #[Value.int .i64 (k.val:Int)]) (Kept (fun b=>b=g\/n₀<=b)) (fun xs=>xs=List.finRange (2 ^ b.toNat)) (fun _=>True) (2 ^ b.toNat) w:=fun l J Jx W hW hJ hJx hY h0=>by
 have hcW:W.cell? ⟨Bn,0,none⟩=some (.int .i64 b):=(hW.cell (p:=⟨Bn,0,none⟩) (show Bn < w.heap.size by omega)).trans hc
 have hw:∀ j:Nat,wok b (j:Int)=decide (j < 2 ^ b.toNat):=fun j=>wok_lt h1 h8 j
 have hM:2 ^ b.toNat<=256:=Nat.pow_le_pow_right (n:=2) (by omega) (show b.toNat<=8 by omega)
 have hBW:Bn < W.heap.size:=by have:=hW.size;omega
 have hBS:¬ (Bn=g\/n₀<=Bn):=by omega
 generalize 2 ^ b.toNat=M at *
 refine callsIn_of_wp Tryz.func82 rfl trivial ?_ rfl
 simp only [Tryz.ntmps82,List.size_toArray,List.length_cons,List.length_nil,Nat.reduceAdd,Nat.reduceSub,Array.replicate_succ,Array.replicate_zero,List.push_toArray,List.append_toArray,List.nil_append,List.cons_append]
 gi_wp2
 gi_loopw [3] (fun q wr=>∃ j:Nat,j<=M/\q=.int .i64 (j:Int)/\J ((List.finRange M).take j) wr/\Kept (fun b=>b=g\/n₀<=b) W wr) (fun q _=>M - (intOf q).toNat)
 case atStart=>exact ⟨0,Nat.zero_le _,rfl,h0,Kept.refl _ _⟩
 case round =>
  obtain ⟨j,hj,rfl,hJs,hBe⟩:=hrel
  have HJS:Hid (J ((List.finRange M).take j) wr):=hJs
  have HBE:Hid (Kept (fun b=>b=g\/n₀<=b) W wr):=hBe
  have hcr:wr.cell? ⟨Bn,0,none⟩=some (.int .i64 b):=(hBe.cell (p:=⟨Bn,0,none⟩) hBW hBS).trans hcW
  have hwj:=hw j
  by_cases hlt:j < M
  ·rw [decide_eq_true hlt] at hwj
   obtain ⟨fn,tmps,assign,body,hy,hR⟩:=hY ((List.finRange M).take j) ⟨j,hlt⟩ wr hJs (by simp;omega)
   have hjz:(j:Int)<=255:=by omega
   clear hw hY hJs hBe
   gi_wp2_with (refine ⟨trivial,(fun h=>absurd h (by decide)),?_⟩;gi_at_call 83;refine (callsIn_wide.2 (iWordOk _ _ _)).mono ?_;rintro e wr ⟨rfl,rfl⟩;rw [hwj])
   refine ⟨(fun h=>absurd h (by decide)),hR.mono ?_⟩
   rintro e W3 (⟨rfl,hJ3,hk3⟩|⟨rfl,hJx3⟩)
   ·have HJ3:Hid (J ((List.finRange M).take (j+1)) W3):=by rw [fin_take hlt];exact hJ3
    have HB3:Hid (Kept (fun b=>b=g\/n₀<=b) W W3):=HBE.out.trans hk3
    clear hJ3 hk3
    gi_wp2
    go_roundw
    case rel=>exact ⟨j+1,by omega,by go_num,HJ3.out,HB3.out⟩
    case measure=>simp [intOf];omega
   ·have HJ3:Hid (Jx ((List.finRange M).take j++[⟨j,hlt⟩]) W3):=hJx3
    clear hJx3
    gi_wp2
    refine bodyPost_ret (results_none rfl _ _ _) rfl ?_
    exact ⟨⟨_,rfl⟩,.inr ⟨_,trivial,HJ3.out⟩⟩
  ·rw [decide_eq_false hlt] at hwj
   have HJE:Hid (j=M):=by
    show _=_
    omega
   clear hw hY hJs hBe
   gi_wp2_with (refine ⟨trivial,(fun h=>absurd h (by decide)),?_⟩;gi_at_call 83;refine (callsIn_wide.2 (iWordOk _ _ _)).mono ?_;rintro e wr ⟨rfl,rfl⟩;rw [hwj])
   go_end0
   exact ⟨⟨_,rfl⟩,.inl ⟨_,rfl,by have h9:=HJS.out;rw [HJE.out,List.take_of_length_le (by simp)] at h9;exact h9⟩⟩
theorem setAll (v b:Int) (w:World):(method 255 104 (.agg #[.int .i64 v,.int .i64 b]) "loop.example/g00116/impl.settledBy").run Tryz.prog w=.ok (166,.agg #[.int .i64 v,.int .i64 b]) w:=by kernel_rfl
theorem setSome (v b:Int) (w:World):(method 255 105 (.agg #[.int .i64 v,.int .i64 b]) "loop.example/g00116/impl.settledBy").run Tryz.prog w=.ok (169,.agg #[.int .i64 v,.int .i64 b]) w:=by kernel_rfl
theorem iSetAll (v b:Int) (w:World):Calls Tryz.prog 166 #[.agg #[.int .i64 v,.int .i64 b]] w fun e w'=>e=.returned (.int .i64 0)/\Below w.heap.size w w':=by
 go_enter Tryz.func166,Tryz.ntmps166
 go_wp2
 go_ret
 exact ⟨rfl,(Below.refl _ _).alloc (Nat.le_refl _) _⟩
theorem iSetSome (v b:Int) (w:World):Calls Tryz.prog 169 #[.agg #[.int .i64 v,.int .i64 b]] w fun e w'=>e=.returned (.int .i64 1)/\Below w.heap.size w w':=by
 go_enter Tryz.func169,Tryz.ntmps169
 go_wp2
 go_ret
 exact ⟨rfl,(Below.refl _ _).alloc (Nat.le_refl _) _⟩
def sb (x:Qu):Int:=if x.all then 0 else 1
theorem hf_hit {x:Qu} {q:List Qu} {t:Tr} {e:List Int} (h:∃ k:Nat,k < 2 ^ x.bits.toNat/\hf q t (e.set x.vr.toNat (k:Int))=sb x):hf (x :: q) t e=sb x:=by
 obtain ⟨k,hk,h⟩:=h
 have hb:=hf_bit x q t e
 unfold sb at h ⊢
 cases hx:x.all
 ·rw [hx,if_neg (by simp)] at h
  rw [if_neg (by simp)]
  simp only [hf,hx,Bool.false_eq_true,if_false]
  exact anyN_one.2 ⟨k,hk,h⟩
 ·rw [hx,if_pos rfl] at h
  rw [if_pos rfl]
  simp only [hf,hx,if_true] at hb ⊢
  rcases hb with h0|h1
  ·exact h0
  ·have:=allN_one.1 h1 k hk
   omega
theorem hf_miss {x:Qu} {q:List Qu} {t:Tr} {e:List Int} (hb:∀ k:Nat,k < 2 ^ x.bits.toNat->hf q t (e.set x.vr.toNat (k:Int))=0\/hf q t (e.set x.vr.toNat (k:Int))=1)
 (h:∀ k:Nat,k < 2 ^ x.bits.toNat->¬ hf q t (e.set x.vr.toNat (k:Int))=sb x):hf (x :: q) t e=1 - sb x:=by
 have hc:=hf_bit x q t e
 unfold sb at h ⊢
 cases hx:x.all
 ·rw [hx] at h
  rw [if_neg (by simp)]
  simp only [hf,hx,Bool.false_eq_true,if_false] at hc ⊢
  rcases hc with h0|h1
  ·omega
  ·obtain ⟨k,hk,h2⟩:=anyN_one.1 h1
   exact absurd h2 (h k hk)
 ·rw [hx] at h
  rw [if_pos rfl]
  simp only [hf,hx,if_true]
  show _=(1:Int)
  refine allN_one.2 (fun k hk=>?_)
  rcases hb k hk with h0|h1
  ·exact absurd h0 (h k hk)
  ·exact h1
end Fp5
end Go.Proofs.YtebejleeadofcaaGreat
