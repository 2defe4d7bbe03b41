/- Small texts of mine, one behind the other. -/
import Derived.RangeFuncNested
import Derived.RangeFuncBound
import Derived.RangeFuncCalls
import Derived.RangeFuncLeaves
import Derived.Shelf.Abstract
import Derived.Shelf.RegionOpen
import Derived.WalkKit
import Derived.OwnWalkIn
import Derived.TacticsInMore
import Derived.LoopNIn
import Derived.LoopIn
import Derived.OrdersHeld
import Derived.OrdersIn
import Derived.TacticsIn
import Derived.Deep.RegionHeld
import Derived.Deep.WholeRow
import Derived.Test.YtdmogjhabladcaaGreatPkH
import Derived.Test.YtdmogjhabladcaaGreatPkN
import Derived.Test.YtdmogjhabladcaaGreatPkB
import Derived.Test.YtdmogjhabladcaaGreatPkI
/- The words of a width, told one by one: the program's eachWord. -/
namespace Go.Proofs.YtdmogjhabladcaaGreat.Pv6
open Go.RowKit Go.Shelf
open Pl1 Vl1 Vl2
open Pg1 (iWordOk)
attribute [local go_sem] Oper.semAt_some
set_option linter.unusedVariables false

set_option maxHeartbeats 1000000 in
theorem iEach (b : Int) (w : World) :
    Calls Tryz.prog 107 #[.int .i64 b] w fun e w' => e = .returned (.func (.func 124) #[] #[.pointer (some ⟨w.heap.size, 0, none⟩)]) ∧ w' = w.alloc (.cells #[.int .i64 b] 3) := by
  go_enter Tryz.func107, Tryz.ntmps107
  go_wp2
  go_ret
  exact ⟨rfl, rfl⟩

theorem fin_take {M j : Nat} (h : j < M) : (List.finRange M).take (j + 1) = (List.finRange M).take j ++ [⟨j, h⟩] := by
  rw [List.take_succ_eq_append_getElem (by simp; exact h)]
  simp
theorem wok_lt {b : Int} (h1 : 1 ≤ b) (h8 : b ≤ 8) (j : Nat) : wok b (j : Int) = decide (j < 2 ^ b.toNat) := by
  rw [Bool.eq_iff_iff, wok_iff, decide_eq_true_iff, p2_nat]
  omega

set_option maxRecDepth 100000 in
set_option maxHeartbeats 2000000 in
theorem words_stops (n n₀ Bn : Nat) (b : Int) (h1 : 1 ≤ b) (h8 : b ≤ 8) (w : World) (hB : Bn < n₀) (hn : n₀ ≤ w.heap.size) (hc : w.cell? ⟨Bn, 0, none⟩ = some (.int .i64 b)) :
    SeqStopsK Fence.wide n Tryz.prog 124 #[.pointer (some ⟨Bn, 0, none⟩)] (fun k : Fin (2 ^ b.toNat) => #[Value.int .i64 (k.val : Int)]) (Below n₀) (fun xs => xs = List.finRange (2 ^ b.toNat)) (fun _ => True) (2 ^ b.toNat) w := fun l J Jx W hW hJ hJx hY h0 => by
  have hcW : W.cell? ⟨Bn, 0, none⟩ = some (.int .i64 b) := (hW.cell (p := ⟨Bn, 0, none⟩) (show Bn < w.heap.size by omega)).trans hc
  have hw : ∀ j : Nat, wok b (j : Int) = decide (j < 2 ^ b.toNat) := fun j => wok_lt h1 h8 j
  have hM : 2 ^ b.toNat ≤ 256 := Nat.pow_le_pow_right (n := 2) (by omega) (show b.toNat ≤ 8 by omega)
  generalize 2 ^ b.toNat = M at *
  refine callsIn_of_wp Tryz.func124 rfl trivial ?_ rfl
  simp only [Tryz.ntmps124, List.size_toArray, List.length_cons, List.length_nil, Nat.reduceAdd, Nat.reduceSub, Array.replicate_succ, Array.replicate_zero, List.push_toArray, List.append_toArray, List.nil_append, List.cons_append]
  gi_wp2
  gi_loopw [3] (fun q wr => ∃ j : Nat, j ≤ M ∧ q = .int .i64 (j : Int) ∧ J ((List.finRange M).take j) wr ∧ Below n₀ W wr) (fun q _ => M - (intOf q).toNat)
  case atStart => exact ⟨0, Nat.zero_le _, rfl, h0, Below.refl _ _⟩
  case round =>
    obtain ⟨j, hj, rfl, hJs, hBe⟩ := hrel
    have HJS : Hid (J ((List.finRange M).take j) wr) := hJs
    have HBE : Hid (Below n₀ W wr) := hBe
    have hcr : wr.cell? ⟨Bn, 0, none⟩ = some (.int .i64 b) := (hBe.cell (p := ⟨Bn, 0, none⟩) hB).trans hcW
    have hwj := hw j
    by_cases hlt : j < M
    · rw [decide_eq_true hlt] at hwj
      obtain ⟨fn, tmps, assign, body, hy, hR⟩ := hY ((List.finRange M).take j) ⟨j, hlt⟩ wr hJs (by simp; omega)
      have hjz : (j : Int) ≤ 255 := by omega
      clear hw hY hJs hBe
      gi_wp2_with (refine ⟨trivial, (fun h => absurd h (by decide)), ?_⟩; gi_at_call 54; refine (callsIn_wide.2 (iWordOk _ _ _)).mono ?_; rintro e wr ⟨rfl, rfl⟩; rw [hwj])
      refine ⟨(fun h => absurd h (by decide)), hR.mono ?_⟩
      rintro e W3 (⟨rfl, hJ3, hk3⟩ | ⟨rfl, hJx3⟩)
      · have HJ3 : Hid (J ((List.finRange M).take (j + 1)) W3) := by rw [fin_take hlt]; exact hJ3
        have HB3 : Hid (Below n₀ W W3) := HBE.out.trans hk3
        clear hJ3 hk3
        gi_wp2
        go_roundw
        case rel => exact ⟨j + 1, by omega, by go_num, HJ3.out, HB3.out⟩
        case measure => simp [intOf]; omega
      · have HJ3 : Hid (Jx ((List.finRange M).take j ++ [⟨j, hlt⟩]) W3) := hJx3
        clear hJx3
        gi_wp2
        refine bodyPost_ret (results_none rfl _ _ _) rfl ?_
        exact ⟨⟨_, rfl⟩, .inr ⟨_, trivial, HJ3.out⟩⟩
    · rw [decide_eq_false hlt] at hwj
      have HJE : Hid (j = M) := by
        show _ = _
        omega
      clear hw hY hJs hBe
      gi_wp2_with (refine ⟨trivial, (fun h => absurd h (by decide)), ?_⟩; gi_at_call 54; refine (callsIn_wide.2 (iWordOk _ _ _)).mono ?_; rintro e wr ⟨rfl, rfl⟩; rw [hwj])
      go_end0
      exact ⟨⟨_, rfl⟩, .inl ⟨_, rfl, by have h9 := HJS.out; rw [HJE.out, List.take_of_length_le (by simp)] at h9; exact h9⟩⟩

end Go.Proofs.YtdmogjhabladcaaGreat.Pv6

/- A region that draws its order, in a round of a loop over a function: out of the plain calculus. -/
namespace Go.Proofs.YtdmogjhabladcaaGreat.Lift
open Go.RowKit

variable {l n : Nat} {P : Program} {ops : Array Oper} {Q : Exit → Act → World → Prop} {md : Region.Mode}

theorem op_lift {o : Oper} {a : Act} {w : World} {K : Act → World → Prop} (hd : ∀ c, o.op ≠ .defer c) (h : o.wp P a w K Q) : o.wpIn (Fence.wide.inRound l) n P a w K Q := by
  refine ⟨fun f _ => trivial, ?_⟩
  show o.uponIn (Fence.wide.inRound l) n P a K Q ((o.semAt (some l) a.eval).run P w)
  rw [Oper.semAt_some l a.eval o hd]
  unfold Oper.wp at h
  generalize (execOp a.eval o).run P w = r at h ⊢
  cases r with
  | ok x w' =>
    cases x <;> simp only [Oper.upon] at h <;> simp only [Oper.uponIn]
    all_goals first
      | exact h
      | exact ⟨(fun h0 => Bool.noConfusion (show false = true from h0)), CallsIn.inRound l (callsIn_wide.2 h)⟩
      | exact ⟨(fun h0 => Bool.noConfusion (show false = true from h0)), (fun c cs _ => by
          obtain ⟨v, w', r, s⟩ := h c cs
          exact ⟨v, w', r, stepsIn_wide.2 s⟩)⟩
  | halt x w' => cases x <;> simp only [Oper.upon] at h <;> simp only [Oper.uponIn] <;> exact h

theorem any_lift (hL : ¬ LetsOut Q) (hd : ∀ (i : Nat) (o : Oper), ops[i]? = some o → ∀ c, o.op ≠ .defer c) : ∀ (fuel : Nat) (listed : Array Bool) (a : Act) (w : World), wpAny P md ops Q fuel listed a w → wpAnyIn (Fence.wide.inRound l) n P md ops Q fuel listed a w := by
  intro fuel
  induction fuel with
  | zero => intro listed a w h; exact h
  | succ fuel ih =>
    intro listed a w h
    refine ⟨h.1, fun i hi => ?_⟩
    have h2 := h.2 i hi
    unfold wpOp at h2
    unfold wpOpIn
    cases ho : ops[i]? with
    | none => rw [ho] at h2; exact ih _ _ _ h2
    | some o =>
      rw [ho] at h2
      dsimp only at h2 ⊢
      split
      · rename_i hw
        rw [if_pos hw] at h2
        rcases h2 with h3 | h3
        · exact op_lift (hd i o ho) (Oper.wp_mono (fun a w h => ih _ _ _ h) h3)
        · exact absurd h3.2 hL
      · rename_i hw
        rw [if_neg hw] at h2
        exact ⟨fun f _ => trivial, ih _ _ _ h2⟩

def noDefer (ops : Array Oper) : Bool := ops.toList.all fun o => match o.op with
  | .defer _ => false
  | _ => true
theorem noDefer_of (h : noDefer ops = true) : ∀ (i : Nat) (o : Oper), ops[i]? = some o → ∀ c, o.op ≠ .defer c := by
  intro i o ho c hc
  have h2 := List.all_eq_true.1 h o (by
    obtain ⟨hi, rfl⟩ := Array.getElem?_eq_some_iff.1 ho
    simp)
  rw [hc] at h2
  cases h2
/-- A region that draws, in a round: under a condition on the world. -/
theorem region_lift {S : World → Prop} {id : Nat} {a : Act} {w : World} (hm : P.follows .mixedOrders = true) (hL : ¬ LetsOut Q) (hd : noDefer ops = true)
    (hS : S w.drew) (h : S w.drew → wpAnyH P .any ops Q S ops.size (Array.replicate ops.size false) a w.drew) : (Code.region id ops true).wpIn (Fence.wide.inRound l) n P Q a w :=
  wpIn_region_any hm (any_lift hL (noDefer_of hd) _ _ _ _ (wpAny_of_held _ _ _ _ (h hS)))

end Go.Proofs.YtdmogjhabladcaaGreat.Lift

/- The program's scenes: what a quantifier's part comes to. -/
namespace Go.Proofs.YtdmogjhabladcaaGreat.Pv7
open Go.RowKit Go.Shelf
open Nd0 Pl1 Tm0 Tm1 Tm5 Tm6 Tm8 Tr0 Rw0 Vl1 Vl2 Vm0 Vm1 Vm2 Kp1 Pv6
attribute [local go_sem] Oper.semAt_some
set_option linter.unusedVariables false

/-- A scene in block s: the term, the variables' values, what is known and what that is worth. -/
structure Sc (w : World) (s : Nat) (a : Option Addr) (l : List Nd) (c : Nat) (e : List Int) (K : Nat → Bool) (V : Nat → Int) : Prop where
  c0 : w.cell? ⟨s, 0, none⟩ = some (.slice a l.length c)
  cv : ∀ i, i < 8 → w.cell? ⟨s, 1 + i, none⟩ = some (.int .i64 (wd e (i : Int)))
  ck : ∀ i, i < 80 → w.cell? ⟨s, 9 + i, none⟩ = some (.bool (K i)) ∧ w.frozen? ⟨s, 9 + i, none⟩ = false
  cw : ∀ i, i < 80 → w.cell? ⟨s, 89 + i, none⟩ = some (.int .i64 (V i)) ∧ w.frozen? ⟨s, 89 + i, none⟩ = false
  ok : ∀ i, i < l.length → K i = true → V i = vT (tr l i) e
theorem Sc.lt {w : World} {s : Nat} {a : Option Addr} {l : List Nd} {c : Nat} {e : List Int} {K : Nat → Bool} {V : Nat → Int} (h : Sc w s a l c e K V) : s < w.heap.size := lt_of_cell (p := ⟨s, 0, none⟩) h.c0
theorem Sc.kept {w w' : World} {s : Nat} {a : Option Addr} {l : List Nd} {c : Nat} {e : List Int} {K : Nat → Bool} {V : Nat → Int} (h : Sc w s a l c e K V) {S : Nat → Prop} (k : Kept S w w') (hs : ¬ S s) : Sc w' s a l c e K V := by
  have hl := h.lt
  exact ⟨(k.cell (p := ⟨s, 0, none⟩) hl hs).trans h.c0, fun i hi => (k.cell (p := ⟨s, 1 + i, none⟩) hl hs).trans (h.cv i hi), fun i hi => ⟨(k.cell (p := ⟨s, 9 + i, none⟩) hl hs).trans (h.ck i hi).1, (k.frozen (p := ⟨s, 9 + i, none⟩) hl hs).trans (h.ck i hi).2⟩, fun i hi => ⟨(k.cell (p := ⟨s, 89 + i, none⟩) hl hs).trans (h.cw i hi).1, (k.frozen (p := ⟨s, 89 + i, none⟩) hl hs).trans (h.cw i hi).2⟩, h.ok⟩

theorem of_drop {z : Array Value} {d m : Nat} {v : Value} (h : (z.toList.drop d).take m = List.replicate m v) (i : Nat) (hi : i < m) : z[d + i]? = some v := by
  have h2 : ((z.toList.drop d).take m)[i]? = some v := by rw [h, List.getElem?_replicate, if_pos hi]
  rw [List.getElem?_take_of_lt hi, List.getElem?_drop] at h2
  simpa using h2
theorem zero_k (i : Nat) (h : i < 80) : Tryz.zeroCells76[9 + i]? = some (.bool false) := of_drop (m := 80) (by kernel_rfl) i h
theorem zero_w (i : Nat) (h : i < 80) : Tryz.zeroCells76[89 + i]? = some (.int .i64 0) := of_drop (m := 80) (by kernel_rfl) i h
/-- What is known of the cells of a scene before it is laid. -/
structure Zc (z : Array Value) : Prop where
  size : z.size = 169
  one : z.all (·.oneCell') = true
  k : ∀ i, i < 80 → z[9 + i]? = some (.bool false)
  w : ∀ i, i < 80 → z[89 + i]? = some (.int .i64 0)
theorem zc_of : Zc Tryz.zeroCells76 := ⟨Tryz.zeroCells76_size, by kernel_rfl, zero_k, zero_w⟩
/-- The cells of a scene that is made. -/
def scCells (z : Array Value) (a : Option Addr) (len c : Nat) (e : List Int) : Array Value := (((((((((z.setIfInBounds 0 (.slice a len c)).setIfInBounds 1 (.int .i64 (wd e 0))).setIfInBounds 2 (.int .i64 (wd e 1))).setIfInBounds 3 (.int .i64 (wd e 2))).setIfInBounds 4 (.int .i64 (wd e 3))).setIfInBounds 5 (.int .i64 (wd e 4))).setIfInBounds 6 (.int .i64 (wd e 5))).setIfInBounds 7 (.int .i64 (wd e 6))).setIfInBounds 8 (.int .i64 (wd e 7)))
theorem sc_size {z : Array Value} (hz : Zc z) (a : Option Addr) (len c : Nat) (e : List Int) : (scCells z a len c e).size = 169 := by
  unfold scCells
  simp only [Array.size_setIfInBounds]
  exact hz.size
theorem info_sc : (Tryz.prog.info? 76).map (·.size) = some 169 := by kernel_rfl
theorem all_set {c : Array Value} {i : Nat} {v : Value} (h : c.all (·.oneCell') = true) (hv : v.oneCell' = true) : (c.setIfInBounds i v).all (·.oneCell') = true := by
  rw [Array.all_eq_true_iff_forall_mem] at h ⊢
  intro x hx
  rcases Array.mem_or_eq_of_mem_setIfInBounds hx with h1 | h1
  · exact h x h1
  · rw [h1]; exact hv
theorem sc_one {z : Array Value} (hz : Zc z) (a : Option Addr) (len c : Nat) (e : List Int) : (scCells z a len c e).all (·.oneCell') = true := by
  unfold scCells
  refine all_set (all_set (all_set (all_set (all_set (all_set (all_set (all_set (all_set hz.one rfl) rfl) rfl) rfl) rfl) rfl) rfl) rfl) rfl
theorem sc_cell {z : Array Value} (hZ : Zc z) (a : Option Addr) (len c : Nat) (e : List Int) : (scCells z a len c e)[0]? = some (.slice a len c) ∧ (∀ i, i < 8 → (scCells z a len c e)[1 + i]? = some (.int .i64 (wd e (i : Int)))) ∧ (∀ i, i < 80 → (scCells z a len c e)[9 + i]? = some (.bool false)) ∧ (∀ i, i < 80 → (scCells z a len c e)[89 + i]? = some (.int .i64 0)) := by
  have hz := hZ.size
  unfold scCells
  refine ⟨?_, ?_, ?_, ?_⟩
  · simp [hz]
  · intro i hi
    have : i = 0 ∨ i = 1 ∨ i = 2 ∨ i = 3 ∨ i = 4 ∨ i = 5 ∨ i = 6 ∨ i = 7 := by omega
    rcases this with rfl | rfl | rfl | rfl | rfl | rfl | rfl | rfl <;> simp [hz]
  · intro i hi
    rw [Array.getElem?_setIfInBounds_ne (by omega), Array.getElem?_setIfInBounds_ne (by omega), Array.getElem?_setIfInBounds_ne (by omega), Array.getElem?_setIfInBounds_ne (by omega), Array.getElem?_setIfInBounds_ne (by omega), Array.getElem?_setIfInBounds_ne (by omega), Array.getElem?_setIfInBounds_ne (by omega), Array.getElem?_setIfInBounds_ne (by omega), Array.getElem?_setIfInBounds_ne (by omega)]
    exact hZ.k i hi
  · intro i hi
    rw [Array.getElem?_setIfInBounds_ne (by omega), Array.getElem?_setIfInBounds_ne (by omega), Array.getElem?_setIfInBounds_ne (by omega), Array.getElem?_setIfInBounds_ne (by omega), Array.getElem?_setIfInBounds_ne (by omega), Array.getElem?_setIfInBounds_ne (by omega), Array.getElem?_setIfInBounds_ne (by omega), Array.getElem?_setIfInBounds_ne (by omega), Array.getElem?_setIfInBounds_ne (by omega)]
    exact hZ.w i hi
theorem sc_new (w : World) {z : Array Value} (hZ : Zc z) (a : Option Addr) (l : List Nd) (c T : Nat) (e : List Int) : Sc (w.alloc (.cells (scCells z a l.length c e) T)) w.heap.size a l c e (fun _ => false) (fun _ => 0) ∧ ∀ j, j < 8 → (w.alloc (.cells (scCells z a l.length c e) T)).frozen? ⟨w.heap.size, 1 + j, none⟩ = false := by
  obtain ⟨h0, h1, h2, h3⟩ := sc_cell hZ a l.length c e
  have hR : ∀ (j : Nat) (v : Value), (scCells z a l.length c e)[j]? = some v → (w.alloc (.cells (scCells z a l.length c e) T)).cell? ⟨w.heap.size, j, none⟩ = some v ∧ (w.alloc (.cells (scCells z a l.length c e) T)).frozen? ⟨w.heap.size, j, none⟩ = false := fun j v hv => by
    refine ⟨by rw [World.cell?_alloc_new]; exact hv, ?_⟩
    simp
  exact ⟨⟨(hR _ _ h0).1, fun i hi => (hR _ _ (h1 i hi)).1, fun i hi => hR _ _ (h2 i hi), fun i hi => hR _ _ (h3 i hi), fun _ _ h => by cases h⟩, fun j hj => (hR _ _ (h1 j hj)).2⟩
theorem drew_alloc (w : World) (o : Obj) : (w.alloc o).drew = w.drew.alloc o := rfl
/-- Another value of a variable, where nothing is known yet. -/
theorem Sc.setv {w : World} {s : Nat} {a : Option Addr} {l : List Nd} {c : Nat} {e : List Int} {V : Nat → Int} (h : Sc w s a l c e (fun _ => false) V) (he : e.length = 8) {v : Nat} (hv : v < 8) (x : Int) : Sc (w.setCell ⟨s, 1 + v, none⟩ (.int .i64 x)) s a l c (e.set v x) (fun _ => false) V := by
  refine ⟨?_, fun i hi => ?_, fun i hi => ?_, fun i hi => ?_, fun _ _ h => by cases h⟩
  · rw [set_other (fun e => by have := congrArg Addr.off e; simp at this)]; exact h.c0
  · by_cases e1 : i = v
    · subst e1
      rw [set_same (h.cv i hi), Rw1.wd_set (by omega), if_pos rfl]
    · rw [set_other (fun e => by have := congrArg Addr.off e; simp at this; omega), h.cv i hi, Rw1.wd_set (by omega), if_neg e1]
  · rw [set_other (fun e => by have := congrArg Addr.off e; simp at this; omega), World.frozen?_setCell]; exact h.ck i hi
  · rw [set_other (fun e => by have := congrArg Addr.off e; simp at this; omega), World.frozen?_setCell]; exact h.cw i hi
/-- A whole array or struct into the block that was made last. -/
theorem wp_store_new {op : Oper} {a : Act} {K : Act → World → Prop} {Q : Exit → Act → World → Prop} (w : World) (ty : TypeId) (x y : Operand) (ho : op.op = .store ty x y)
    (c c' : Array Value) (g : Nat) (hx : a.eval x = .pointer (some ⟨g, 0, none⟩)) (hg : g = w.heap.size) (hy : a.eval y = .agg c') (hi : (Tryz.prog.info? ty).map (·.size) = some c'.size) (hs : c.size = c'.size) (h1 : c'.all (·.oneCell') = true)
    (h : K (a.put op.dst undef) (w.alloc (.cells c' ty))) : op.wp Tryz.prog a (w.alloc (.cells c ty)) K Q := by
  subst hg
  unfold Oper.wp execOp
  simp only [ho, hx, hy, Sem.run_bind, Sem.run_pure, run_storeAt_new w ty c c' hi hs h1, Result.andThen_ok]
  exact h

/-- The last operation of a region: a whole struct into the block that was made last. -/
theorem store_last {ops : Array Oper} {Q : Exit → Act → World → Prop} {S : World → Prop} {fuel i : Nat} {listed : Array Bool} {a : Act} {o : Oper} (w : World) (ty : TypeId) (x y : Operand) (c c' : Array Value) (g : Nat)
    (hr : Region.ready .any ops listed = [i]) (hr2 : Region.ready .any ops (listed.setIfInBounds i true) = []) (ho : ops[i]? = some o) (hgd : o.guard = none) (hop : o.op = .store ty x y)
    (hx : a.eval x = .pointer (some ⟨g, 0, none⟩)) (hg : g = w.heap.size) (hy : a.eval y = .agg c') (hi : (Tryz.prog.info? ty).map (·.size) = some c'.size) (hs : c.size = c'.size) (h1 : c'.all (·.oneCell') = true)
    (hS : S (w.alloc (.cells c' ty))) (hQ : Q .normal (a.put o.dst undef) (w.alloc (.cells c' ty))) : wpAnyH Tryz.prog .any ops Q S (fuel + 1) listed a (w.alloc (.cells c ty)) := by
  refine wpAnyH_ready hr (by simp) (AllReadyH.cons ho (fun K' hK' => ?_) AllReadyH.nil)
  rw [if_pos (by simp [Region.wanted, hgd])]
  exact wp_store_new w ty x y hop c c' g hx hg hy hi hs h1 (hK'.out _ _ hS (fun _ => wpAnyH_done hr2 hQ _))

/-- An operation of a region that calls, where no other may come up. -/
theorem call_one {ops : Array Oper} {Q : Exit → Act → World → Prop} {S : World → Prop} {fuel i f : Nat} {args : Array Value} {listed : Array Bool} {a : Act} {o : Oper} {w : World}
    (hr : Region.ready .any ops listed = [i]) (ho : ops[i]? = some o) (hgd : o.guard = none) (hrun : (execOp a.eval o).run Tryz.prog w = .ok (.enter f args) w)
    (hc : Calls Tryz.prog f args w fun e w' => ∃ v, e = .returned v ∧ S w' ∧ wpAnyH Tryz.prog .any ops Q S fuel (listed.setIfInBounds i true) (a.put o.dst v) w') : wpAnyH Tryz.prog .any ops Q S (fuel + 1) listed a w := by
  refine wpAnyH_ready hr (by simp) (AllReadyH.cons ho (fun K' hK' => ?_) AllReadyH.nil)
  rw [if_pos (by simp [Region.wanted, hgd])]
  unfold Oper.wp
  rw [hrun, Oper.upon_enter]
  refine hc.mono ?_
  rintro e w' ⟨v, rfl, hS, h⟩
  exact hK'.out _ _ hS (fun _ => h)
theorem ko_of_below {W W' : World} (h : Below W.heap.size W W') : KeepsOthers W W' := ⟨h.size, fun k o hk _ => (h.block k (Array.getElem?_eq_some_iff.1 hk).1).trans hk⟩

/-- What value is to do at place i. -/
def PVal (l : List Nd) (i : Nat) : Prop := ∀ (w : World) (s : Nat) (a : Option Addr) (c : Nat) (e : List Int) (K : Nat → Bool) (V : Nat → Int), Nodes w a l → (∀ x, a = some x → x.block ≠ s) → e.length = 8 → Sc w s a l c e K V → FitN l i e →
    Calls Tryz.prog 48 #[.pointer (some ⟨s, 0, none⟩), .int .i64 (i : Int)] w fun x w' => x = .returned (.int .i64 (vT (tr l i) e)) ∧ (∃ K' V', Sc w' s a l c e K' V') ∧ Kept (fun b => b = s) w w'
/-- What comesTo is to do at place i, a quantifier. -/
def PCome (l : List Nd) (i : Nat) : Prop := ∀ (w : World) (s : Nat) (a : Option Addr) (c : Nat) (e : List Int) (K : Nat → Bool) (V : Nat → Int) (x : Int), Nodes w a l → (∀ x, a = some x → x.block ≠ s) → e.length = 8 → Sc w s a l c e K V → FitN l i e →
    Calls Tryz.prog 116 #[.pointer (some ⟨s, 0, none⟩), .int .i64 x, .agg #[.int .i64 (nth l i).op, .int .i64 (nth l i).w, .int .i64 (nth l i).k, .int .i64 (nth l i).a, .int .i64 (nth l i).b, .int .i64 (nth l i).c]] w fun r w' => r = .returned (.bool (hitB l e (nth l i) x)) ∧ Below w.heap.size w w'

/-- The boxes that comesTo makes. -/
structure Boxes (w w1 : World) (s : Nat) (x : Int) (n : Nd) : Prop where
  sz : w1.heap.size = w.heap.size + 1 + 1 + 1 + 1 + 1
  below : Below w.heap.size w w1
  ps : w1.cell? ⟨w.heap.size, 0, none⟩ = some (.pointer (some ⟨s, 0, none⟩))
  px : w1.cell? ⟨w.heap.size + 1, 0, none⟩ = some (.int .i64 x)
  nd : NodeAt w1 (w.heap.size + 1 + 1) 0 n
  rb : w1.cell? ⟨w.heap.size + 1 + 1 + 1, 0, none⟩ = some (.bool false) ∧ w1.frozen? ⟨w.heap.size + 1 + 1 + 1, 0, none⟩ = false
  eb : w1.cell? ⟨w.heap.size + 1 + 1 + 1 + 1, 0, none⟩ = some (.int .i64 n.b)
theorem come_facts (w : World) (s : Nat) (x : Int) (n : Nd) (t1 t2 t3 t4 t5 : Nat) (w1 : World) (h : w1 = ((((w.alloc (.cells #[.pointer (some ⟨s, 0, none⟩)] t1)).alloc (.cells #[.int .i64 x] t2)).alloc (.cells #[.int .i64 n.op, .int .i64 n.w, .int .i64 n.k, .int .i64 n.a, .int .i64 n.b, .int .i64 n.c] t3)).alloc (.cells #[.bool false] t4)).alloc (.cells #[.int .i64 n.b] t5)) : Boxes w w1 s x n := by
  obtain ⟨wa, ha⟩ : ∃ wa, wa = w.alloc (.cells #[.pointer (some ⟨s, 0, none⟩)] t1) := ⟨_, rfl⟩
  obtain ⟨wb, hb⟩ : ∃ wb, wb = wa.alloc (.cells #[.int .i64 x] t2) := ⟨_, rfl⟩
  obtain ⟨wc, hc⟩ : ∃ wc, wc = wb.alloc (.cells #[.int .i64 n.op, .int .i64 n.w, .int .i64 n.k, .int .i64 n.a, .int .i64 n.b, .int .i64 n.c] t3) := ⟨_, rfl⟩
  obtain ⟨wd, hd⟩ : ∃ wd, wd = wc.alloc (.cells #[.bool false] t4) := ⟨_, rfl⟩
  rw [← ha, ← hb, ← hc, ← hd] at h
  have sa : wa.heap.size = w.heap.size + 1 := by rw [ha]; simp
  have sb : wb.heap.size = w.heap.size + 1 + 1 := by rw [hb]; simp [sa]
  have sc : wc.heap.size = w.heap.size + 1 + 1 + 1 := by rw [hc]; simp [sb]
  have sd : wd.heap.size = w.heap.size + 1 + 1 + 1 + 1 := by rw [hd]; simp [sc]
  have s1 : w1.heap.size = w.heap.size + 1 + 1 + 1 + 1 + 1 := by rw [h]; simp [sd]
  have ba : Below w.heap.size w wa := by rw [ha]; exact (Below.refl _ _).alloc (Nat.le_refl _) _
  have bb : Below wa.heap.size wa wb := by rw [hb]; exact (Below.refl _ _).alloc (Nat.le_refl _) _
  have bc : Below wb.heap.size wb wc := by rw [hc]; exact (Below.refl _ _).alloc (Nat.le_refl _) _
  have bd : Below wc.heap.size wc wd := by rw [hd]; exact (Below.refl _ _).alloc (Nat.le_refl _) _
  have b1 : Below wd.heap.size wd w1 := by rw [h]; exact (Below.refl _ _).alloc (Nat.le_refl _) _
  have bd1 : Below wc.heap.size wc w1 := bd.trans (b1.mono (by omega))
  have bc1 : Below wb.heap.size wb w1 := bc.trans (bd1.mono (by omega))
  have bb1 : Below wa.heap.size wa w1 := bb.trans (bc1.mono (by omega))
  refine ⟨s1, ba.trans (bb1.mono (by omega)), ?_, ?_, ?_, ⟨?_, ?_⟩, ?_⟩
  · rw [bb1.cell (p := ⟨w.heap.size, 0, none⟩) (show w.heap.size < _ by omega), ha, World.cell?_alloc_new]; rfl
  · rw [← sa, bc1.cell (p := ⟨wa.heap.size, 0, none⟩) (show wa.heap.size < _ by omega), hb, World.cell?_alloc_new]; rfl
  · rw [← sb]
    refine NodeAt.below ?_ bd1 (show wb.heap.size < _ by omega)
    rw [hc]
    exact Dw4.node_new wb n t3 _ rfl 0 (by simp)
  · rw [← sc, b1.cell (p := ⟨wc.heap.size, 0, none⟩) (show wc.heap.size < _ by omega), hd, World.cell?_alloc_new]; rfl
  · rw [← sc, World.frozen?_of_block (w := wd) (b1.block _ (show wc.heap.size < _ by omega)), hd]
    exact (Row.new wc #[.bool false] t4 1 (fun _ => .bool false) (fun j hj => by
      have : j = 0 := by omega
      subst this; rfl) 0 (by omega)).2
  · rw [← sd, h, World.cell?_alloc_new]; rfl


end Go.Proofs.YtdmogjhabladcaaGreat.Pv7

/- The walk of the program's comesTo. -/
namespace Go.Proofs.YtdmogjhabladcaaGreat.Pv8
open Go.RowKit Go.Shelf
open Nd0 Pl1 Tm0 Tm1 Tm5 Tm6 Tm8 Tr0 Rw0 Vl1 Vl2 Vm0 Vm1 Vm2 Kp1 Pv6 Pv7
attribute [local go_sem] Oper.semAt_some
set_option linter.unusedVariables false

theorem keep3 {W W' : World} {b s : Nat} {v0 v1 : Value} {e : List Int} (hb : Below W.heap.size W W') (h : W.cell? ⟨b, 0, none⟩ = some v0 ∧ W.cell? ⟨s, 0, none⟩ = some v1 ∧ ∀ j : Nat, j < 8 → W.cell? ⟨s, 1 + j, none⟩ = some (.int .i64 (wd e (j : Int)))) :
    W'.cell? ⟨b, 0, none⟩ = some v0 ∧ W'.cell? ⟨s, 0, none⟩ = some v1 ∧ ∀ j : Nat, j < 8 → W'.cell? ⟨s, 1 + j, none⟩ = some (.int .i64 (wd e (j : Int))) :=
  ⟨(hb.cell (lt_of_cell h.1)).trans h.1, (hb.cell (lt_of_cell h.2.1)).trans h.2.1, fun j hj => (hb.cell (lt_of_cell (h.2.2 j hj))).trans (h.2.2 j hj)⟩

set_option maxRecDepth 100000 in
set_option maxHeartbeats 8000000 in
theorem come_of {l : List Nd} (hT : termOk l = true) {i : Nat} (hi : i < l.length) (hq : quant (nth l i).op = true) (ih : PVal l (nth l i).a.toNat) : PCome l i := by
  intro w s a c e K V x hN hag he hS hF
  have hkk := shape_var (term_node hT hi) (.inr hq)
  have hbb := Tm11.quant_b (term_node hT hi) hq
  have haa : 0 ≤ (nth l i).a := by
    have hq2 : (nth l i).op = 19 ∨ (nth l i).op = 20 := by simpa [quant] using hq
    exact (down_of hT i hi (nth l i).a (by rw [parts_one (by omega)]; simp)).1
  have HFB : Hid (∀ k : Nat, k < 2 ^ (nth l i).b.toNat → FitN l (nth l i).a.toNat (e.set (nth l i).k.toNat (k : Int))) := fun k hk => hF.below (down_of hT) hi (term_node hT hi) he hq hk
  have HIH : Hid (PVal l (nth l i).a.toNat) := ih
  have HN : Hid (Nodes w a l) := hN
  have HS : Hid (Sc w s a l c e K V) := hS
  have HAG : Hid (∀ x, a = some x → ¬ x.block = s) := hag
  generalize nth l i = n at hkk hbb HFB HIH haa ⊢
  clear hN hS hag ih hF hq
  refine (callsIn_wide (n := 3)).1 ?_
  refine callsIn_of_wp_marks Tryz.func116 rfl trivial ?_ rfl
  simp only [Tryz.ntmps116, List.size_toArray, List.length_cons, List.length_nil, Nat.reduceAdd, Nat.reduceSub, Array.replicate_succ, Array.replicate_zero, List.push_toArray, List.append_toArray, List.nil_append, List.cons_append]
  gi_wp2_with (refine ⟨trivial, ?_⟩; gi_at_call 107; refine (callsIn_wide.2 (iEach _ _)).mono ?_; rintro e0 w1 ⟨rfl, rfl⟩)
  obtain ⟨w1, hw1⟩ : ∃ w1 : World, w1 = ((((w.alloc (.cells #[.pointer (some ⟨s, 0, none⟩)] 118)).alloc (.cells #[.int .i64 x] 3)).alloc (.cells #[.int .i64 n.op, .int .i64 n.w, .int .i64 n.k, .int .i64 n.a, .int .i64 n.b, .int .i64 n.c] 31)).alloc (.cells #[.bool false] 4)).alloc (.cells #[.int .i64 n.b] 3) := ⟨_, rfl⟩
  have F := come_facts w s x n _ _ _ _ _ w1 hw1
  rw [← hw1]
  obtain ⟨f, hf⟩ : ∃ f : Nat → Int, f = fun (k : Nat) => vT (tr l n.a.toNat) (e.set n.k.toNat (k : Int)) := ⟨_, rfl⟩
  refine wpIn_rangeFunc_ownF rfl (by omega) (gf := 124) (lb := #[.pointer (some ⟨w.heap.size + 1 + 1 + 1 + 1, 0, none⟩)]) rfl trivial (enters_of Tryz.func124 (by kernel_rfl) rfl)
    (words_stops 2 (w.heap.size + 1 + 1 + 1 + 1 + 1) (w.heap.size + 1 + 1 + 1 + 1) n.b hbb.1 hbb.2 w1 (by omega) (by have := F.sz; omega) F.eb) belowK_t (belowK_b (by have := F.sz; omega)) (Below.refl _ _) (fun _ => rfl)
    (fun pre W => (∀ k ∈ pre, ¬ f k.val = x) ∧ Below (w.heap.size + 1 + 1 + 1 + 1 + 1) w1 W)
    (fun c pre W => (c = .ret ∧ ∃ k ∈ pre, f k.val = x) ∧ (W.cell? ⟨w.heap.size + 1 + 1 + 1, 0, none⟩ = some (.bool true) ∧ Below w.heap.size w W))
    (OwnFrom.and (ownFrom_pure _ _) (ownFrom_below (by have := F.sz; omega) (by have := F.sz; omega)))
    (fun c => OwnFrom.and (ownFrom_pure _ _) (OwnFrom.and (Own.from (fun s A B row hs hg hr => cell_kept hs hg hr) _) (ownFrom_below (Nat.le_refl _) (by have := F.sz; omega))))
    ⟨(fun k hk => by cases hk), Below.refl _ _⟩
    (fun k => { tmps := #[.pointer (some ⟨s, 0, none⟩), .int .i64 x, .agg #[.int .i64 n.op, .int .i64 n.w, .int .i64 n.k, .int .i64 n.a, .int .i64 n.b, .int .i64 n.c], .pointer (some ⟨w.heap.size, 0, none⟩), .pointer (some ⟨w.heap.size + 1, 0, none⟩), .pointer (some ⟨w.heap.size + 1 + 1, 0, none⟩), .pointer (some ⟨w.heap.size + 1 + 1 + 1, 0, none⟩), .int .i64 (k.val : Int), undef, .pointer (some ⟨w.heap.size + 1 + 1, 4, none⟩), .int .i64 n.b, .func (.func 124) #[] #[.pointer (some ⟨w.heap.size + 1 + 1 + 1 + 1, 0, none⟩)], .int .i64 (k.val : Int), undef, undef, undef, undef, undef, undef, undef, undef, undef, undef, undef, undef, undef, undef, undef, undef, undef, undef, undef], defers := [] }) ?assign ?body ?done ?stop
  case assign =>
    intro l x W K hK
    gi_wp2
    exact hK
  case body =>
    rintro lp pre k W ⟨hne, hB⟩ hlen
    have hSc : Sc W s a l c e K V := (HS.out.kept (S := fun _ => False) (Kept.ofBelow F.below) (fun h => h)).kept (S := fun b => w.heap.size + 1 + 1 + 1 + 1 + 1 ≤ b) ⟨hB.os, hB.tape, hB.output, hB.size, fun b hb h => hB.block b (by omega)⟩ (by have := HS.out.lt; omega)
    have m0 : W.cell? ⟨w.heap.size, 0, none⟩ = some (.pointer (some ⟨s, 0, none⟩)) := (hB.cell (p := ⟨w.heap.size, 0, none⟩) (show w.heap.size < _ by omega)).trans F.ps
    gi_wp2
    refine Lift.region_lift (S := fun w' => w'.cell? ⟨w.heap.size, 0, none⟩ = some (.pointer (some ⟨s, 0, none⟩)) ∧ w'.cell? ⟨s, 0, none⟩ = some (.slice a l.length c) ∧ ∀ j : Nat, j < 8 → w'.cell? ⟨s, 1 + j, none⟩ = some (.int .i64 (wd e (j : Int)))) (by kernel_rfl) (fun h => by obtain ⟨_, _, h⟩ := h; exact h) (by kernel_rfl) ⟨m0, hSc.c0, hSc.cv⟩ (fun hHeld => ?_)
    refine wpAnyH_take (i := 0) (oi := _) (v := ?_) rfl (by kernel_rfl) (by kernel_rfl) (by kernel_rfl) (fun _ _ _ h => h) (Or.inl ⟨by rfl, ?_⟩) (by assumption) ?_
    rotate_left 1
    · intro w' hSw
      obtain ⟨y0, y1, y2⟩ := hSw
      have z0 := y2 0 (by omega)
      have z1 := y2 1 (by omega)
      have z2 := y2 2 (by omega)
      have z3 := y2 3 (by omega)
      have z4 := y2 4 (by omega)
      have z5 := y2 5 (by omega)
      have z6 := y2 6 (by omega)
      have z7 := y2 7 (by omega)
      simp only [Nat.reduceAdd] at z0 z1 z2 z3 z4 z5 z6 z7
      clear y2
      go_simp
      with_reducible rfl
    try simp only [Act.put]
    try simp only [List.getElem_toArray]
    repeat (first | simp only [List.getElem_cons_succ] | simp only [List.getElem_cons_zero])
    try simp only [List.setIfInBounds_toArray]
    repeat (first | simp only [List.set_cons_succ] | simp only [List.set_cons_zero])
    refine wpAnyH_take (i := 1) (oi := _) (v := ?_) rfl (by kernel_rfl) (by kernel_rfl) (by kernel_rfl) (fun _ _ _ h => h) (Or.inl ⟨by rfl, ?_⟩) (by assumption) ?_
    rotate_left 1
    · intro w' hSw
      obtain ⟨y0, y1, y2⟩ := hSw
      have z0 := y2 0 (by omega)
      have z1 := y2 1 (by omega)
      have z2 := y2 2 (by omega)
      have z3 := y2 3 (by omega)
      have z4 := y2 4 (by omega)
      have z5 := y2 5 (by omega)
      have z6 := y2 6 (by omega)
      have z7 := y2 7 (by omega)
      simp only [Nat.reduceAdd] at z0 z1 z2 z3 z4 z5 z6 z7
      clear y2
      go_simp
      with_reducible rfl
    try simp only [Act.put]
    try simp only [List.getElem_toArray]
    repeat (first | simp only [List.getElem_cons_succ] | simp only [List.getElem_cons_zero])
    try simp only [List.setIfInBounds_toArray]
    repeat (first | simp only [List.set_cons_succ] | simp only [List.set_cons_zero])
    refine wpAnyH_take (i := 2) (oi := _) (v := ?_) rfl (by kernel_rfl) (by kernel_rfl) (by kernel_rfl) (fun _ _ _ h => h) (Or.inl ⟨by rfl, ?_⟩) (by assumption) ?_
    rotate_left 1
    · intro w' hSw
      obtain ⟨y0, y1, y2⟩ := hSw
      have z0 := y2 0 (by omega)
      have z1 := y2 1 (by omega)
      have z2 := y2 2 (by omega)
      have z3 := y2 3 (by omega)
      have z4 := y2 4 (by omega)
      have z5 := y2 5 (by omega)
      have z6 := y2 6 (by omega)
      have z7 := y2 7 (by omega)
      simp only [Nat.reduceAdd] at z0 z1 z2 z3 z4 z5 z6 z7
      clear y2
      go_simp
      with_reducible rfl
    try simp only [Act.put]
    try simp only [List.getElem_toArray]
    repeat (first | simp only [List.getElem_cons_succ] | simp only [List.getElem_cons_zero])
    try simp only [List.setIfInBounds_toArray]
    repeat (first | simp only [List.set_cons_succ] | simp only [List.set_cons_zero])
    refine wpAnyH_take (i := 3) (oi := _) (v := ?_) rfl (by kernel_rfl) (by kernel_rfl) (by kernel_rfl) (fun _ _ _ h => h) (Or.inl ⟨by rfl, ?_⟩) (by assumption) ?_
    rotate_left 1
    · intro w' hSw
      obtain ⟨y0, y1, y2⟩ := hSw
      have z0 := y2 0 (by omega)
      have z1 := y2 1 (by omega)
      have z2 := y2 2 (by omega)
      have z3 := y2 3 (by omega)
      have z4 := y2 4 (by omega)
      have z5 := y2 5 (by omega)
      have z6 := y2 6 (by omega)
      have z7 := y2 7 (by omega)
      simp only [Nat.reduceAdd] at z0 z1 z2 z3 z4 z5 z6 z7
      clear y2
      go_simp
      with_reducible rfl
    try simp only [Act.put]
    try simp only [List.getElem_toArray]
    repeat (first | simp only [List.getElem_cons_succ] | simp only [List.getElem_cons_zero])
    try simp only [List.setIfInBounds_toArray]
    repeat (first | simp only [List.set_cons_succ] | simp only [List.set_cons_zero])
    refine wpAnyH_take (i := 4) (oi := _) (v := ?_) rfl (by kernel_rfl) (by kernel_rfl) (by kernel_rfl) (fun _ _ _ h => h) (Or.inl ⟨by rfl, ?_⟩) (by assumption) ?_
    rotate_left 1
    · intro w' hSw
      obtain ⟨y0, y1, y2⟩ := hSw
      have z0 := y2 0 (by omega)
      have z1 := y2 1 (by omega)
      have z2 := y2 2 (by omega)
      have z3 := y2 3 (by omega)
      have z4 := y2 4 (by omega)
      have z5 := y2 5 (by omega)
      have z6 := y2 6 (by omega)
      have z7 := y2 7 (by omega)
      simp only [Nat.reduceAdd] at z0 z1 z2 z3 z4 z5 z6 z7
      clear y2
      go_simp
      with_reducible rfl
    try simp only [Act.put]
    try simp only [List.getElem_toArray]
    repeat (first | simp only [List.getElem_cons_succ] | simp only [List.getElem_cons_zero])
    try simp only [List.setIfInBounds_toArray]
    repeat (first | simp only [List.set_cons_succ] | simp only [List.set_cons_zero])
    refine wpAnyH_take (i := 5) (oi := _) (v := ?_) rfl (by kernel_rfl) (by kernel_rfl) (by kernel_rfl) (fun _ _ _ h => h) (Or.inl ⟨by rfl, ?_⟩) (by assumption) ?_
    rotate_left 1
    · intro w' hSw
      obtain ⟨y0, y1, y2⟩ := hSw
      have z0 := y2 0 (by omega)
      have z1 := y2 1 (by omega)
      have z2 := y2 2 (by omega)
      have z3 := y2 3 (by omega)
      have z4 := y2 4 (by omega)
      have z5 := y2 5 (by omega)
      have z6 := y2 6 (by omega)
      have z7 := y2 7 (by omega)
      simp only [Nat.reduceAdd] at z0 z1 z2 z3 z4 z5 z6 z7
      clear y2
      go_simp
      with_reducible rfl
    try simp only [Act.put]
    try simp only [List.getElem_toArray]
    repeat (first | simp only [List.getElem_cons_succ] | simp only [List.getElem_cons_zero])
    try simp only [List.setIfInBounds_toArray]
    repeat (first | simp only [List.set_cons_succ] | simp only [List.set_cons_zero])
    refine wpAnyH_take (i := 6) (oi := _) (v := ?_) rfl (by kernel_rfl) (by kernel_rfl) (by kernel_rfl) (fun _ _ _ h => h) (Or.inl ⟨by rfl, ?_⟩) (by assumption) ?_
    rotate_left 1
    · intro w' hSw
      obtain ⟨y0, y1, y2⟩ := hSw
      have z0 := y2 0 (by omega)
      have z1 := y2 1 (by omega)
      have z2 := y2 2 (by omega)
      have z3 := y2 3 (by omega)
      have z4 := y2 4 (by omega)
      have z5 := y2 5 (by omega)
      have z6 := y2 6 (by omega)
      have z7 := y2 7 (by omega)
      simp only [Nat.reduceAdd] at z0 z1 z2 z3 z4 z5 z6 z7
      clear y2
      go_simp
      with_reducible rfl
    try simp only [Act.put]
    try simp only [List.getElem_toArray]
    repeat (first | simp only [List.getElem_cons_succ] | simp only [List.getElem_cons_zero])
    try simp only [List.setIfInBounds_toArray]
    repeat (first | simp only [List.set_cons_succ] | simp only [List.set_cons_zero])
    refine wpAnyH_take (i := 7) (oi := _) (v := ?_) rfl (by kernel_rfl) (by kernel_rfl) (by kernel_rfl) (fun _ _ _ h => h) (Or.inl ⟨by rfl, ?_⟩) (by assumption) ?_
    rotate_left 1
    · intro w' hSw
      obtain ⟨y0, y1, y2⟩ := hSw
      have z0 := y2 0 (by omega)
      have z1 := y2 1 (by omega)
      have z2 := y2 2 (by omega)
      have z3 := y2 3 (by omega)
      have z4 := y2 4 (by omega)
      have z5 := y2 5 (by omega)
      have z6 := y2 6 (by omega)
      have z7 := y2 7 (by omega)
      simp only [Nat.reduceAdd] at z0 z1 z2 z3 z4 z5 z6 z7
      clear y2
      go_simp
      with_reducible rfl
    try simp only [Act.put]
    try simp only [List.getElem_toArray]
    repeat (first | simp only [List.getElem_cons_succ] | simp only [List.getElem_cons_zero])
    try simp only [List.setIfInBounds_toArray]
    repeat (first | simp only [List.set_cons_succ] | simp only [List.set_cons_zero])
    refine wpAnyH_take (i := 8) (oi := _) (v := ?_) rfl (by kernel_rfl) (by kernel_rfl) (by kernel_rfl) (fun _ _ _ h => h) (Or.inl ⟨by rfl, ?_⟩) (by assumption) ?_
    rotate_left 1
    · intro w' hSw
      clear hSw
      go_simp
      with_reducible rfl
    try simp only [Act.put]
    try simp only [List.getElem_toArray]
    repeat (first | simp only [List.getElem_cons_succ] | simp only [List.getElem_cons_zero])
    try simp only [List.setIfInBounds_toArray]
    repeat (first | simp only [List.set_cons_succ] | simp only [List.set_cons_zero])
    refine wpAnyH_ready (rs := [9]) (by kernel_rfl) (by simp) ?_
    refine AllReadyH.cons rfl (fun K' hK' => ?_) AllReadyH.nil
    go_simp
    obtain ⟨zc, hzc⟩ : ∃ zc : Array Value, zc = Tryz.zeroCells76 := ⟨_, rfl⟩
    have hZ : Zc zc := by rw [hzc]; exact zc_of
    rw [← hzc]
    clear hzc
    have hszW : w.heap.size + 1 + 1 + 1 + 1 + 1 ≤ W.heap.size := by have := hB.size; have := F.sz; omega
    have HB1 : Below W.heap.size W ((W.alloc (.cells zc 76)).drew) := ((Below.refl _ _).alloc (Nat.le_refl _) _).drew
    refine hK'.out _ _ (keep3 HB1 ⟨m0, hSc.c0, hSc.cv⟩) (fun hHeld2 => ?_)
    clear hK' K' hHeld
    rw [drew_alloc]
    have HB2 : Below W.heap.size W (W.drew.alloc (.cells (scCells zc a l.length c e) 76)) := (Below.refl _ _).drew.alloc (Nat.le_refl _) _
    refine store_last (i := 10) W.drew 76 (.tmp 8) (.tmp 21) zc (scCells zc a l.length c e) W.heap.size (by kernel_rfl) (by kernel_rfl) rfl rfl rfl rfl rfl rfl (by rw [sc_size hZ]; exact info_sc) (by rw [sc_size hZ]; exact hZ.size) (sc_one hZ _ _ _ _) (keep3 HB2 ⟨m0, hSc.c0, hSc.cv⟩) ?_
    clear hHeld2
    have hSF := sc_new W.drew hZ a l c 76 e
    obtain ⟨W2, hW2⟩ : ∃ W2 : World, W2 = W.drew.alloc (.cells (scCells zc a l.length c e) 76) := ⟨_, rfl⟩
    rw [← hW2] at HB2 hSF ⊢
    obtain ⟨g2, hg2⟩ : ∃ g2 : Nat, g2 = W.heap.size := ⟨_, rfl⟩
    have hSc2 : Sc W2 g2 a l c e (fun _ => false) (fun _ => 0) := by rw [hg2]; exact hSF.1
    have hfz : ∀ j : Nat, j < 8 → W2.frozen? ⟨g2, 1 + j, none⟩ = false := fun j hj => by rw [hg2]; exact hSF.2 j hj
    rw [← hg2]
    have HG2 : Hid (g2 = W.heap.size) := hg2
    have HBW : Hid (Below W.heap.size W W2) := HB2
    have hnd : NodeAt W2 (w.heap.size + 1 + 1) 0 n := (F.nd.below hB (by omega)).below HB2 (by omega)
    have hpx : W2.cell? ⟨w.heap.size + 1, 0, none⟩ = some (.int .i64 x) := (HB2.cell (p := ⟨w.heap.size + 1, 0, none⟩) (show w.heap.size + 1 < _ by omega)).trans ((hB.cell (p := ⟨w.heap.size + 1, 0, none⟩) (show w.heap.size + 1 < _ by omega)).trans F.px)
    obtain ⟨v, hv⟩ : ∃ v : Nat, n.k = (v : Int) := ⟨n.k.toNat, by omega⟩
    have hv8 : v < 8 := by omega
    have k1 := hSc2.cv v hv8
    have k2 := hfz v hv8
    obtain ⟨p0, p1, p2, p3, p4, p5⟩ := hnd
    have hvz : (v : Int) < 8 := by omega
    have HSC2 : Hid (Sc W2 g2 a l c e (fun _ => false) (fun _ => 0)) := hSc2
    have HNW : Hid (Nodes W2 a l) := ((HN.out.below F.below).kept (S := fun b => w.heap.size + 1 + 1 + 1 + 1 + 1 ≤ b) ⟨hB.os, hB.tape, hB.output, hB.size, fun b hb h => hB.block b (by omega)⟩ (fun y hy h => by
      rcases HN.out.2 with h0 | ⟨xb, xo, hx, hc⟩
      · have := term_len hT; omega
      · rw [hy] at hx
        have h9 := (hc 0 (by omega)).lt
        have h10 := Option.some.inj hx
        rw [h10] at h
        have : w.heap.size + 1 + 1 + 1 + 1 + 1 ≤ xb := h
        omega)).below HB2
    have HBB : Hid (Below (w.heap.size + 1 + 1 + 1 + 1 + 1) w1 W) := hB
    have HF : Hid (Boxes w w1 s x n) := F
    have HNE : Hid (∀ k ∈ pre, ¬ f k.val = x) := hne
    have HFK : Hid (f k.val = vT (tr l n.a.toNat) (e.set v (k.val : Int))) := by
      show _ = _
      rw [hf, hv, Int.toNat_natCast]
    have HFB2 : Hid (FitN l n.a.toNat (e.set v (k.val : Int))) := by
      have := HFB.out k.val k.isLt
      rw [hv, Int.toNat_natCast] at this
      exact this
    have hszW2 : Hid (w.heap.size + 1 + 1 + 1 + 1 + 1 ≤ W.heap.size) := hszW
    clear hW2 hSF hB HB2 HB1 hSc2 hfz hSc m0 hszW hne F hw1 hf hg2 hZ
    rw [hv] at p2
    gi_wp2
    have HSC3 : Hid (Sc (W2.setCell ⟨g2, 1 + v, none⟩ (.int .i64 (k.val : Int))) g2 a l c (e.set v (k.val : Int)) (fun _ => false) (fun _ => 0)) := HSC2.out.setv he hv8 _
    have hga : ¬ g2 = w.heap.size + 1 + 1 := by have := HG2.out; have := hszW2.out; omega
    have hgx : ¬ g2 = w.heap.size + 1 := by have := HG2.out; have := hszW2.out; omega
    obtain ⟨W3, hW3⟩ : ∃ W3 : World, W3 = W2.setCell ⟨g2, 1 + v, none⟩ (.int .i64 (k.val : Int)) := ⟨_, rfl⟩
    have r3 : W3.cell? ⟨w.heap.size + 1 + 1, 3, none⟩ = some (.int .i64 n.a) := by
      rw [hW3, set_other (fun e => hga (congrArg Addr.block e))]; exact p3
    have rx : W3.cell? ⟨w.heap.size + 1, 0, none⟩ = some (.int .i64 x) := by
      rw [hW3, set_other (fun e => hgx (congrArg Addr.block e))]; exact hpx
    have HK3 : Hid (Kept (fun b => b = g2) W2 W3) := by rw [hW3]; exact (Kept.refl (fun b => b = g2) W2).setCell (p := ⟨g2, 1 + v, none⟩) rfl _
    rw [← hW3] at HSC3 ⊢
    clear hW3 k1 k2 p0 p1 p2 p3 p4 p5 hpx
    refine Lift.region_lift (S := fun w' => w'.cell? ⟨w.heap.size + 1 + 1, 3, none⟩ = some (.int .i64 n.a) ∧ w'.cell? ⟨w.heap.size + 1, 0, none⟩ = some (.int .i64 x)) (by kernel_rfl) (fun h => by obtain ⟨_, _, h⟩ := h; exact h) (by kernel_rfl) ⟨r3, rx⟩ (fun hHeld => ?_)
    refine wpAnyH_take (i := 0) (oi := _) (v := ?_) rfl (by kernel_rfl) (by kernel_rfl) (by kernel_rfl) (fun _ _ _ h => h) (Or.inl ⟨by rfl, ?_⟩) (by assumption) ?_
    rotate_left 1
    · intro w' hSw
      obtain ⟨y0, y1⟩ := hSw
      go_simp
      with_reducible rfl
    try simp only [Act.put]
    try simp only [List.getElem_toArray]
    repeat (first | simp only [List.getElem_cons_succ] | simp only [List.getElem_cons_zero])
    try simp only [List.setIfInBounds_toArray]
    repeat (first | simp only [List.set_cons_succ] | simp only [List.set_cons_zero])
    refine wpAnyH_take (i := 1) (oi := _) (v := ?_) rfl (by kernel_rfl) (by kernel_rfl) (by kernel_rfl) (fun _ _ _ h => h) (Or.inl ⟨by rfl, ?_⟩) (by assumption) ?_
    rotate_left 1
    · intro w' hSw
      obtain ⟨y0, y1⟩ := hSw
      go_simp
      with_reducible rfl
    try simp only [Act.put]
    try simp only [List.getElem_toArray]
    repeat (first | simp only [List.getElem_cons_succ] | simp only [List.getElem_cons_zero])
    try simp only [List.setIfInBounds_toArray]
    repeat (first | simp only [List.set_cons_succ] | simp only [List.set_cons_zero])
    refine wpAnyH_take (i := 3) (oi := _) (v := ?_) rfl (by kernel_rfl) (by kernel_rfl) (by kernel_rfl) (fun _ _ _ h => h) (Or.inl ⟨by rfl, ?_⟩) (by assumption) ?_
    rotate_left 1
    · intro w' hSw
      obtain ⟨y0, y1⟩ := hSw
      go_simp
      with_reducible rfl
    try simp only [Act.put]
    try simp only [List.getElem_toArray]
    repeat (first | simp only [List.getElem_cons_succ] | simp only [List.getElem_cons_zero])
    try simp only [List.setIfInBounds_toArray]
    repeat (first | simp only [List.set_cons_succ] | simp only [List.set_cons_zero])
    have HSC4 : Sc W3.drew g2 a l c (e.set v (k.val : Int)) (fun _ => false) (fun _ => 0) := HSC3.out.kept (S := fun _ => False) (Kept.refl _ _).drew (fun h => h)
    have HAG2 : ∀ y, a = some y → y.block ≠ g2 := fun y hy => by
      rcases HN.out.2 with h0 | ⟨xb, xo, hx, hc⟩
      · have := term_len hT; omega
      · rw [hy] at hx
        have h9 := (hc 0 (by have := term_len hT; omega)).lt
        have h10 := Option.some.inj hx
        rw [h10]
        have := HG2.out
        have := hszW2.out
        show xb ≠ g2
        omega
    have HNW4 : Nodes W3.drew a l := HNW.out.kept (HK3.out.drew) HAG2
    have hcall := HIH.out W3.drew g2 a c (e.set v (k.val : Int)) _ _ HNW4 HAG2 (by rw [List.length_set]; exact he) HSC4 HFB2.out
    rw [Int.toNat_of_nonneg haa, ← HFK.out] at hcall
    refine call_one (i := 2) (f := 48) (args := #[.pointer (some ⟨g2, 0, none⟩), .int .i64 n.a]) (by kernel_rfl) rfl rfl (by go_simp) ?_
    refine hcall.mono ?_
    rintro e0 w4 ⟨rfl, _, hK4⟩
    have HK4 : Hid (Kept (fun b => b = g2) W3.drew w4) := hK4
    refine ⟨_, rfl, ⟨(hK4.cell (p := ⟨w.heap.size + 1 + 1, 3, none⟩) (lt_of_cell (w := W3) r3) (fun h => hga h.symm)).trans r3, (hK4.cell (p := ⟨w.heap.size + 1, 0, none⟩) (lt_of_cell (w := W3) rx) (fun h => hgx h.symm)).trans rx⟩, ?_⟩
    try simp only [Act.put]
    try simp only [List.getElem_toArray]
    repeat (first | simp only [List.getElem_cons_succ] | simp only [List.getElem_cons_zero])
    try simp only [List.setIfInBounds_toArray]
    repeat (first | simp only [List.set_cons_succ] | simp only [List.set_cons_zero])
    have hHeld4 : w4.cell? ⟨w.heap.size + 1 + 1, 3, none⟩ = some (.int .i64 n.a) ∧ w4.cell? ⟨w.heap.size + 1, 0, none⟩ = some (.int .i64 x) := ⟨(hK4.cell (p := ⟨w.heap.size + 1 + 1, 3, none⟩) (lt_of_cell (w := W3) r3) (fun h => hga h.symm)).trans r3, (hK4.cell (p := ⟨w.heap.size + 1, 0, none⟩) (lt_of_cell (w := W3) rx) (fun h => hgx h.symm)).trans rx⟩
    refine wpAnyH_take (i := 4) (oi := _) (v := ?_) rfl (by kernel_rfl) (by kernel_rfl) (by kernel_rfl) (fun _ _ _ h => h) (Or.inl ⟨by rfl, ?_⟩) hHeld4 ?_
    rotate_left 1
    · intro w' hSw
      clear hSw
      go_simp
      with_reducible rfl
    try simp only [Act.put]
    try simp only [List.getElem_toArray]
    repeat (first | simp only [List.getElem_cons_succ] | simp only [List.getElem_cons_zero])
    try simp only [List.setIfInBounds_toArray]
    repeat (first | simp only [List.set_cons_succ] | simp only [List.set_cons_zero])
    refine wpAnyH_done (by kernel_rfl) ?_ _
    have HBW4 : Hid (Below W.heap.size W w4) := by
      have h1 : Below W.heap.size W2 W3 := HK3.out.below (fun b (h : b = g2) => by have := HG2.out; omega) HBW.out.size
      have h2 : Below W.heap.size W3.drew w4 := HK4.out.below (fun b (h : b = g2) => by have := HG2.out; omega) (Nat.le_trans HBW.out.size h1.size)
      exact (HBW.out.trans h1).drew.trans h2
    have t1 : w4.cell? ⟨w.heap.size + 1 + 1 + 1, 0, none⟩ = some (.bool false) := (HBW4.out.cell (p := ⟨w.heap.size + 1 + 1 + 1, 0, none⟩) (show w.heap.size + 1 + 1 + 1 < _ by have := hszW2.out; omega)).trans ((HBB.out.cell (p := ⟨w.heap.size + 1 + 1 + 1, 0, none⟩) (show w.heap.size + 1 + 1 + 1 < _ by omega)).trans HF.out.rb.1)
    have t2 : w4.frozen? ⟨w.heap.size + 1 + 1 + 1, 0, none⟩ = false := (World.frozen?_of_block (w := W) (HBW4.out.block _ (show w.heap.size + 1 + 1 + 1 < _ by have := hszW2.out; omega))).trans ((World.frozen?_of_block (w := w1) (HBB.out.block _ (show w.heap.size + 1 + 1 + 1 < _ by omega))).trans HF.out.rb.2)
    clear hHeld hHeld4 r3 rx HSC4 HNW4 hcall hK4
    cases hfx : (f k.val == x)
    · have hfx' : ¬ f k.val = x := by simpa using hfx
      have HFX : Hid (¬ f k.val = x) := hfx'
      clear hfx'
      gi_wp2
      refine ⟨ko_of_below HBW4.out, HBW4.out.mono (by have := hszW2.out; omega), ?_, HBB.out.trans (HBW4.out.mono (by have := hszW2.out; omega))⟩
      intro k' hk'
      rcases List.mem_append.1 hk' with h | h
      · exact HNE.out k' h
      · have : k' = k := by simpa using h
        rw [this]; exact HFX.out
    · have hfx' : f k.val = x := by simpa using hfx
      have HFX : Hid (f k.val = x) := hfx'
      clear hfx'
      gi_wp2
      refine ⟨(ko_of_below HBW4.out).trans (KeepsOthers.setCell _ _ _), ⟨rfl, k, by simp, HFX.out⟩, set_same t1, ?_⟩
      exact (HF.out.below.trans ((HBB.out.mono (by omega)).trans (HBW4.out.mono (by have := hszW2.out; omega)))).setCell (p := ⟨w.heap.size + 1 + 1 + 1, 0, none⟩) (show w.heap.size ≤ w.heap.size + 1 + 1 + 1 by omega) _
  case done =>
    rintro D xs W hD rfl ⟨hne, hB⟩ hK
    have hHit : hitB l e n x = false := by
      cases hh : hitB l e n x
      · rfl
      · obtain ⟨k, hk, h5⟩ := hit_iff.1 hh
        exact absurd (by rw [hf]; exact h5) (hne ⟨k, hk⟩ (List.mem_finRange _))
    have HHit : Hid (hitB l e n x = false) := hHit
    have hr1 : W.cell? ⟨w.heap.size + 1 + 1 + 1, 0, none⟩ = some (.bool false) := (hB.cell (p := ⟨w.heap.size + 1 + 1 + 1, 0, none⟩) (show w.heap.size + 1 + 1 + 1 < _ by omega)).trans F.rb.1
    have hr2 : W.frozen? ⟨w.heap.size + 1 + 1 + 1, 0, none⟩ = false := (World.frozen?_of_block (w := w1) (hB.block _ (show w.heap.size + 1 + 1 + 1 < _ by omega))).trans F.rb.2
    have HB : Hid (Below (w.heap.size + 1 + 1 + 1 + 1 + 1) w1 W) := hB
    have HK : Hid (W.heap[D]? = some (Obj.deferred (some []))) := hK
    have HF : Hid (Boxes w w1 s x n) := F
    have HD : Hid (w1.heap.size ≤ D) := hD
    clear hne hB hHit hf F hw1 hK hD
    gi_wp2
    have hK2 : (W.setCell ⟨w.heap.size + 1 + 1 + 1, 0, none⟩ (.bool false)).heap[D]? = some (.deferred (some [])) := (KeepsOthers.setCell _ _ _).same D _ HK.out rfl
    refine ⟨by simp, .inl ⟨_, _, rfl, run_takeDeferred hK2, ?_⟩⟩
    have hc2 : ((W.setCell ⟨w.heap.size + 1 + 1 + 1, 0, none⟩ (.bool false)).putObj D (.deferred none)).cell? ⟨w.heap.size + 1 + 1 + 1, 0, none⟩ = some (.bool false) := cell_kept (set_same hr1) (grownBy_putObj' _ D (.deferred none)) (fun r e => by cases e; exact ⟨_, hK2, rfl⟩)
    refine ⟨.bool false, by simp [results, Tryz.results116, go_sem, hc2], by rw [HHit.out], ?_⟩
    have h1 : Below w.heap.size w W := HF.out.below.trans (HB.out.mono (by omega))
    have h2 : Below w.heap.size w (W.setCell ⟨w.heap.size + 1 + 1 + 1, 0, none⟩ (.bool false)) := h1.setCell (p := ⟨w.heap.size + 1 + 1 + 1, 0, none⟩) (show w.heap.size ≤ w.heap.size + 1 + 1 + 1 by omega) _
    exact h2.trans (belowK_b (w := w) (Nat.le_refl _) _ D _ _ (by have := HD.out; have := HF.out.sz; omega) hK2 rfl rfl)
  case stop =>
    rintro D cc pre W hD _ ⟨⟨rfl, hk⟩, hc, hB⟩ hK
    have hHit : hitB l e n x = true := by
      obtain ⟨k, _, h5⟩ := hk
      rw [hf] at h5
      exact hit_iff.2 ⟨k.val, k.isLt, h5⟩
    have HHit : Hid (hitB l e n x = true) := hHit
    have HB : Hid (Below w.heap.size w W) := hB
    have HK : Hid (W.heap[D]? = some (Obj.deferred (some []))) := hK
    have HF : Hid (Boxes w w1 s x n) := F
    have HD : Hid (w1.heap.size ≤ D) := hD
    clear hk hB hHit hf F hw1 hK hD
    gi_wp2
    refine ⟨by simp, .inl ⟨_, _, rfl, run_takeDeferred HK.out, ?_⟩⟩
    have hc2 : (W.putObj D (.deferred none)).cell? ⟨w.heap.size + 1 + 1 + 1, 0, none⟩ = some (.bool true) := cell_kept hc (grownBy_putObj' _ D (.deferred none)) (fun r e => by cases e; exact ⟨_, HK.out, rfl⟩)
    refine ⟨.bool true, by simp [results, Tryz.results116, go_sem, hc2], by rw [HHit.out], ?_⟩
    exact HB.out.trans (belowK_b (w := w) (Nat.le_refl _) _ D _ _ (by have := HD.out; have := HF.out.sz; omega) HK.out rfl rfl)

end Go.Proofs.YtdmogjhabladcaaGreat.Pv8

/- The walks of the program's scene: value, out of workOut. -/
namespace Go.Proofs.YtdmogjhabladcaaGreat.Pv9
open Go.RowKit
open Nd0 Pl1 Tm0 Tm1 Tm5 Tm6 Tm8 Tr0 Rw0 Vl1 Vl2 Vm0 Vm1 Vm2 Kp1 Pv7
open Ws1 (ret_int ret_bool)
set_option linter.unusedVariables false

/-- What workOut is to do at place i. -/
def PWork (l : List Nd) (i : Nat) : Prop := ∀ (w : World) (s : Nat) (a : Option Addr) (c : Nat) (e : List Int) (K : Nat → Bool) (V : Nat → Int), Nodes w a l → (∀ x, a = some x → x.block ≠ s) → e.length = 8 → Sc w s a l c e K V → FitN l i e →
    Calls Tryz.prog 89 #[.pointer (some ⟨s, 0, none⟩), .agg #[.int .i64 (nth l i).op, .int .i64 (nth l i).w, .int .i64 (nth l i).k, .int .i64 (nth l i).a, .int .i64 (nth l i).b, .int .i64 (nth l i).c]] w fun x w' => x = .returned (.int .i64 (vT (tr l i) e)) ∧ (∃ K' V', Sc w' s a l c e K' V') ∧ Kept (fun b => b = s) w w'

theorem Sc.learn {w : World} {s : Nat} {a : Option Addr} {l : List Nd} {c : Nat} {e : List Int} {K : Nat → Bool} {V : Nat → Int} (h : Sc w s a l c e K V) {i : Nat} (hi : i < 80) {x : Int} (hx : x = vT (tr l i) e) :
    Sc ((w.setCell ⟨s, 89 + i, none⟩ (.int .i64 x)).setCell ⟨s, 9 + i, none⟩ (.bool true)) s a l c e (fun j => if j = i then true else K j) (fun j => if j = i then x else V j) := by
  refine ⟨?_, fun j hj => ?_, fun j hj => ?_, fun j hj => ?_, fun j hj hk => ?_⟩
  · rw [set_other (fun e => by have := congrArg Addr.off e; simp at this <;> omega), set_other (fun e => by have := congrArg Addr.off e; simp at this <;> omega)]; exact h.c0
  · rw [set_other (fun e => by have := congrArg Addr.off e; simp at this <;> omega), set_other (fun e => by have := congrArg Addr.off e; simp at this <;> omega)]; exact h.cv j hj
  · rw [World.frozen?_setCell, World.frozen?_setCell]
    by_cases e1 : j = i
    · subst e1
      refine ⟨?_, (h.ck j hj).2⟩
      rw [if_pos rfl]
      exact set_same (u := .bool (K j)) (by rw [set_other (fun e => by have := congrArg Addr.off e; simp at this <;> omega)]; exact (h.ck j hj).1)
    · rw [if_neg e1, set_other (fun e => by have := congrArg Addr.off e; simp at this <;> omega), set_other (fun e => by have := congrArg Addr.off e; simp at this <;> omega)]; exact h.ck j hj
  · rw [World.frozen?_setCell, World.frozen?_setCell]
    by_cases e1 : j = i
    · subst e1
      refine ⟨?_, (h.cw j hj).2⟩
      rw [if_pos rfl, set_other (fun e => by have := congrArg Addr.off e; simp at this <;> omega)]
      exact set_same (h.cw j hj).1
    · rw [if_neg e1, set_other (fun e => by have := congrArg Addr.off e; simp at this <;> omega), set_other (fun e => by have := congrArg Addr.off e; simp at this <;> omega)]; exact h.cw j hj
  · by_cases e1 : j = i
    · subst e1
      rw [if_pos rfl]; exact hx
    · rw [if_neg e1] at hk ⊢; exact h.ok j hj hk

theorem held7 {w w4 : World} {s xb xo i c : Nat} {l : List Nd} {n : Nd} (hK : Kept (fun b => b = s) w w4) (hxs : ¬ xb = s) (h0 : w4.cell? ⟨s, 0, none⟩ = some (.slice (some ⟨xb, xo, none⟩) l.length c)) (hn : NodeAt w xb (xo + i * 6) n) : w4.cell? ⟨s, 0, none⟩ = some (.slice (some ⟨xb, xo, none⟩) l.length c) ∧ w4.cell? ⟨xb, xo + i * 6, none⟩ = some (.int .i64 n.op) ∧ w4.cell? ⟨xb, xo + i * 6 + 1, none⟩ = some (.int .i64 n.w) ∧ w4.cell? ⟨xb, xo + i * 6 + 2, none⟩ = some (.int .i64 n.k) ∧ w4.cell? ⟨xb, xo + i * 6 + 3, none⟩ = some (.int .i64 n.a) ∧ w4.cell? ⟨xb, xo + i * 6 + 4, none⟩ = some (.int .i64 n.b) ∧ w4.cell? ⟨xb, xo + i * 6 + 5, none⟩ = some (.int .i64 n.c) := by
  have hl := hn.lt
  obtain ⟨p0, p1, p2, p3, p4, p5⟩ := hn
  exact ⟨h0, (hK.cell (p := ⟨xb, xo + i * 6, none⟩) hl hxs).trans p0, (hK.cell (p := ⟨xb, xo + i * 6 + 1, none⟩) hl hxs).trans p1, (hK.cell (p := ⟨xb, xo + i * 6 + 2, none⟩) hl hxs).trans p2, (hK.cell (p := ⟨xb, xo + i * 6 + 3, none⟩) hl hxs).trans p3, (hK.cell (p := ⟨xb, xo + i * 6 + 4, none⟩) hl hxs).trans p4, (hK.cell (p := ⟨xb, xo + i * 6 + 5, none⟩) hl hxs).trans p5⟩
theorem held7s {w4 : World} {s xb xo i c : Nat} {l : List Nd} {n : Nd} (hxs : ¬ xb = s) (x : Value) (h : w4.cell? ⟨s, 0, none⟩ = some (.slice (some ⟨xb, xo, none⟩) l.length c) ∧ w4.cell? ⟨xb, xo + i * 6, none⟩ = some (.int .i64 n.op) ∧ w4.cell? ⟨xb, xo + i * 6 + 1, none⟩ = some (.int .i64 n.w) ∧ w4.cell? ⟨xb, xo + i * 6 + 2, none⟩ = some (.int .i64 n.k) ∧ w4.cell? ⟨xb, xo + i * 6 + 3, none⟩ = some (.int .i64 n.a) ∧ w4.cell? ⟨xb, xo + i * 6 + 4, none⟩ = some (.int .i64 n.b) ∧ w4.cell? ⟨xb, xo + i * 6 + 5, none⟩ = some (.int .i64 n.c)) : (w4.setCell ⟨s, 89 + i, none⟩ x).cell? ⟨s, 0, none⟩ = some (.slice (some ⟨xb, xo, none⟩) l.length c) ∧ (w4.setCell ⟨s, 89 + i, none⟩ x).cell? ⟨xb, xo + i * 6, none⟩ = some (.int .i64 n.op) ∧ (w4.setCell ⟨s, 89 + i, none⟩ x).cell? ⟨xb, xo + i * 6 + 1, none⟩ = some (.int .i64 n.w) ∧ (w4.setCell ⟨s, 89 + i, none⟩ x).cell? ⟨xb, xo + i * 6 + 2, none⟩ = some (.int .i64 n.k) ∧ (w4.setCell ⟨s, 89 + i, none⟩ x).cell? ⟨xb, xo + i * 6 + 3, none⟩ = some (.int .i64 n.a) ∧ (w4.setCell ⟨s, 89 + i, none⟩ x).cell? ⟨xb, xo + i * 6 + 4, none⟩ = some (.int .i64 n.b) ∧ (w4.setCell ⟨s, 89 + i, none⟩ x).cell? ⟨xb, xo + i * 6 + 5, none⟩ = some (.int .i64 n.c) := by
  obtain ⟨y0, y1, y2, y3, y4, y5, y6⟩ := h
  exact ⟨(set_other (fun e => by have := congrArg Addr.off e; simp at this <;> omega)).trans y0, (set_other (fun e => hxs (congrArg Addr.block e).symm)).trans y1, (set_other (fun e => hxs (congrArg Addr.block e).symm)).trans y2, (set_other (fun e => hxs (congrArg Addr.block e).symm)).trans y3, (set_other (fun e => hxs (congrArg Addr.block e).symm)).trans y4, (set_other (fun e => hxs (congrArg Addr.block e).symm)).trans y5, (set_other (fun e => hxs (congrArg Addr.block e).symm)).trans y6⟩

set_option maxRecDepth 100000 in
set_option maxHeartbeats 8000000 in
theorem value_of {l : List Nd} {i : Nat} (hi : i < l.length) (h80 : l.length ≤ 80) (ih : PWork l i) : PVal l i := by
  intro w s a c e K V hN hag he hS hF
  obtain ⟨k1, k2⟩ := hS.ck i (by omega)
  obtain ⟨w1, w2⟩ := hS.cw i (by omega)
  have hiz : (i : Int) < 80 := by omega
  have hil : (i : Int) < (l.length : Int) := by omega
  have HS : Hid (Sc w s a l c e K V) := hS
  cases hk : K i
  · rw [hk] at k1
    rcases hN.2 with h0 | ⟨xb, xo, rfl, hc⟩
    · omega
    obtain ⟨p0, p1, p2, p3, p4, p5⟩ := hc i hi
    rw [nth_get hi] at p0 p1 p2 p3 p4 p5
    have hxs : ¬ xb = s := hag _ rfl
    have hcall := ih w.drew s _ c e K V (hN.kept (Kept.refl (fun _ => False) w).drew (fun _ _ h => h)) hag he (hS.kept (S := fun _ => False) (Kept.refl _ _).drew (fun h => h)) hF
    have hSS : w.cell? ⟨s, 0, none⟩ = some (.slice (some ⟨xb, xo, none⟩) l.length c) ∧ NodeAt w xb (xo + i * 6) (nth l i) := ⟨hS.c0, p0, p1, p2, p3, p4, p5⟩
    have hxl : xb < w.heap.size := lt_of_cell p0
    have HCALL : Hid (Calls Tryz.prog 89 #[.pointer (some ⟨s, 0, none⟩), .agg #[.int .i64 (nth l i).op, .int .i64 (nth l i).w, .int .i64 (nth l i).k, .int .i64 (nth l i).a, .int .i64 (nth l i).b, .int .i64 (nth l i).c]] w.drew fun x w' => x = .returned (.int .i64 (vT (tr l i) e)) ∧ (∃ K' V', Sc w' s (some ⟨xb, xo, none⟩) l c e K' V') ∧ Kept (fun b => b = s) w.drew w') := hcall
    generalize hn : nth l i = n at p0 p1 p2 p3 p4 p5 HCALL
    have c0 := hS.c0
    clear hcall hSS hc hN hn hS
    go_enter Tryz.func48, Tryz.ntmps48
    go_wp2
    have HNA : Hid (NodeAt w xb (xo + i * 6) n) := ⟨p0, p1, p2, p3, p4, p5⟩
    have HXS : Hid (¬ xb = s) := hxs
    go_region_held (fun w' => w'.cell? ⟨s, 0, none⟩ = some (.slice (some ⟨xb, xo, none⟩) l.length c) ∧ w'.cell? ⟨xb, xo + i * 6, none⟩ = some (.int .i64 n.op) ∧ w'.cell? ⟨xb, xo + i * 6 + 1, none⟩ = some (.int .i64 n.w) ∧ w'.cell? ⟨xb, xo + i * 6 + 2, none⟩ = some (.int .i64 n.k) ∧ w'.cell? ⟨xb, xo + i * 6 + 3, none⟩ = some (.int .i64 n.a) ∧ w'.cell? ⟨xb, xo + i * 6 + 4, none⟩ = some (.int .i64 n.b) ∧ w'.cell? ⟨xb, xo + i * 6 + 5, none⟩ = some (.int .i64 n.c)) ((first | exact ⟨c0, p0, p1, p2, p3, p4, p5⟩ | exact HST1.out | exact held7s HXS.out _ HST1.out)) ((go_at_call 89; refine HCALL.out.mono ?_; rintro x0 w4 ⟨rfl, ⟨K', V', hS4⟩, hK4⟩; have u1 := (hS4.cw i (by omega)).1; have u2 := (hS4.cw i (by omega)).2; have HK4 : Hid (Kept (fun b => b = s) w w4) := (Kept.refl (fun b => b = s) w).drew.trans hK4; have HST1 : Hid (w4.cell? ⟨s, 0, none⟩ = some (.slice (some ⟨xb, xo, none⟩) l.length c) ∧ w4.cell? ⟨xb, xo + i * 6, none⟩ = some (.int .i64 n.op) ∧ w4.cell? ⟨xb, xo + i * 6 + 1, none⟩ = some (.int .i64 n.w) ∧ w4.cell? ⟨xb, xo + i * 6 + 2, none⟩ = some (.int .i64 n.k) ∧ w4.cell? ⟨xb, xo + i * 6 + 3, none⟩ = some (.int .i64 n.a) ∧ w4.cell? ⟨xb, xo + i * 6 + 4, none⟩ = some (.int .i64 n.b) ∧ w4.cell? ⟨xb, xo + i * 6 + 5, none⟩ = some (.int .i64 n.c)) := held7 HK4.out HXS.out hS4.c0 HNA.out; have HS4 : Hid (Sc w4 s (some ⟨xb, xo, none⟩) l c e K' V') := hS4; clear hS4 hK4))
    obtain ⟨z1, z2⟩ := HS4.out.ck i (by omega)
    obtain ⟨x, hx⟩ : ∃ x : Int, x = vT (tr l i) e := ⟨_, rfl⟩
    rw [← hx]
    have HX : Hid (x = vT (tr l i) e) := hx
    have x1 : (w4.setCell ⟨s, 89 + i, none⟩ (.int .i64 x)).cell? ⟨s, 9 + i, none⟩ = some (.bool (K' i)) := (set_other (fun e => by have := congrArg Addr.off e; simp at this <;> omega)).trans z1
    have x2 : (w4.setCell ⟨s, 89 + i, none⟩ (.int .i64 x)).frozen? ⟨s, 9 + i, none⟩ = false := by rw [World.frozen?_setCell]; exact z2
    have x3 : ((w4.setCell ⟨s, 89 + i, none⟩ (.int .i64 x)).setCell ⟨s, 9 + i, none⟩ (.bool true)).cell? ⟨s, 89 + i, none⟩ = some (.int .i64 x) := (set_other (fun e => by have := congrArg Addr.off e; simp at this <;> omega)).trans (set_same u1)
    have HW6 : Hid (Sc ((w4.setCell ⟨s, 89 + i, none⟩ (.int .i64 x)).setCell ⟨s, 9 + i, none⟩ (.bool true)) s (some ⟨xb, xo, none⟩) l c e (fun j => if j = i then true else K' j) (fun j => if j = i then x else V' j)) := Sc.learn HS4.out (by omega) hx
    have HK6 : Hid (Kept (fun b => b = s) w ((w4.setCell ⟨s, 89 + i, none⟩ (.int .i64 x)).setCell ⟨s, 9 + i, none⟩ (.bool true))) := (HK4.out.setCell (p := ⟨s, 89 + i, none⟩) rfl _).setCell (p := ⟨s, 9 + i, none⟩) rfl _
    generalize w4.setCell ⟨s, 89 + i, none⟩ (.int .i64 x) = W5 at x1 x2 x3 HW6 HK6 ⊢
    clear hx z1 z2 u1 u2
    go_wp2
    go_ret
    exact ⟨ret_int HX.out, ⟨_, _, HW6.out⟩, HK6.out⟩
  · rw [hk] at k1
    have HV : Hid (V i = vT (tr l i) e) := hS.ok i hi hk
    clear hS hN
    go_enter Tryz.func48, Tryz.ntmps48
    go_wp2
    go_ret
    exact ⟨ret_int HV.out, ⟨K, V, HS.out⟩, Kept.refl _ _⟩

end Go.Proofs.YtdmogjhabladcaaGreat.Pv9

/- The walk of the program's workOut: variables and quantifiers. -/
namespace Go.Proofs.YtdmogjhabladcaaGreat.Pv10
open Go.RowKit
open Nd0 Pl1 Tm0 Tm1 Tm5 Tm6 Tm8 Tr0 Rw0 Vl1 Vl2 Vm0 Vm1 Vm2 Kp1 Pv7 Pv9
open Ws1 (ret_int ret_bool)
open Wd4 (iOne)
set_option linter.unusedVariables false

set_option maxRecDepth 100000 in
set_option maxHeartbeats 8000000 in
theorem work_var {l : List Nd} (hT : termOk l = true) {i : Nat} (hi : i < l.length) (h1 : (nth l i).op = 1) : PWork l i := by
  intro w s a c e K V hN hag he hS hF
  have HV : Hid (vT (tr l i) e = wd e (nth l i).k) := vT_var (down_of hT) hi e h1
  have hkk := shape_var (term_node hT hi) (.inl h1)
  generalize nth l i = n at h1 hkk HV ⊢
  obtain ⟨nop, nw, nk, na, nb, nc⟩ := n
  simp only at h1 hkk HV ⊢
  subst h1
  obtain ⟨v, rfl⟩ : ∃ v : Nat, nk = (v : Int) := ⟨nk.toNat, by omega⟩
  have hv8 : v < 8 := by omega
  have hvz : (v : Int) < 8 := by omega
  have hsl := hS.lt
  obtain ⟨w1, hw1⟩ : ∃ w1 : World, w1 = w.alloc (.cells #[.int .i64 1, .int .i64 nw, .int .i64 (v : Int), .int .i64 na, .int .i64 nb, .int .i64 nc] 31) := ⟨_, rfl⟩
  have hB1 : Below w.heap.size w w1 := by rw [hw1]; exact (Below.refl _ _).alloc (Nat.le_refl _) _
  have HA1 : NodeAt w1 w.heap.size 0 ⟨1, nw, v, na, nb, nc⟩ := by
    rw [hw1]
    exact Dw4.node_new w ⟨1, nw, v, na, nb, nc⟩ _ _ rfl 0 (by simp)
  have p2 := HA1.c2
  have k1 : w1.cell? ⟨s, 1 + v, none⟩ = some (.int .i64 (wd e (v : Int))) := (hB1.cell (p := ⟨s, 1 + v, none⟩) hsl).trans (hS.cv v hv8)
  have HS1 : Hid (Sc w1 s a l c e K V) := hS.kept (S := fun _ => False) (Kept.ofBelow hB1) (fun h => h)
  have HK1 : Hid (Kept (fun b => b = s) w w1) := Kept.ofBelow hB1
  clear hS hN hB1 HA1
  go_enter Tryz.func89, Tryz.ntmps89
  go_wp2
  rw [← hw1]
  clear hw1
  go_region_held (fun w' => w'.cell? ⟨w.heap.size, 2, none⟩ = some (.int .i64 (v : Int)) ∧ w'.cell? ⟨s, 1 + v, none⟩ = some (.int .i64 (wd e (v : Int)))) (exact ⟨p2, k1⟩) (fail)
  go_wp2
  go_ret
  exact ⟨ret_int HV.out.symm, ⟨K, V, HS1.out.kept (S := fun _ => False) (Kept.refl _ _).drew (fun h => h)⟩, HK1.out.drew⟩

set_option maxRecDepth 100000 in
set_option maxHeartbeats 8000000 in
theorem work_quant {l : List Nd} (hT : termOk l = true) {i : Nat} (hi : i < l.length) (hq : quant (nth l i).op = true) (ih : PCome l i) : PWork l i := by
  intro w s a c e K V hN hag he hS hF
  have HV : Hid (vT (tr l i) e = if (nth l i).op = 19 then (if (!hitB l e (nth l i) 0) then 1 else 0) else (if hitB l e (nth l i) 1 then 1 else 0)) := vT_hit hT hi he hF hq
  have hq2 : (nth l i).op = 19 ∨ (nth l i).op = 20 := by simpa [quant] using hq
  have hB : ∀ o : Obj, Below w.heap.size w (w.alloc o) := fun o => (Below.refl _ _).alloc (Nat.le_refl _) _
  have hcall : ∀ x (o : Obj), _ := fun x o => ih (w.alloc o) s a c e K V x (hN.below (hB o)) hag he (hS.kept (S := fun _ => False) (Kept.ofBelow (hB o)) (fun h => h)) hF
  have HCALL : Hid (∀ (x : Int) (o : Obj), Calls Tryz.prog 116 #[.pointer (some ⟨s, 0, none⟩), .int .i64 x, .agg #[.int .i64 (nth l i).op, .int .i64 (nth l i).w, .int .i64 (nth l i).k, .int .i64 (nth l i).a, .int .i64 (nth l i).b, .int .i64 (nth l i).c]] (w.alloc o) fun r w' => r = .returned (.bool (hitB l e (nth l i) x)) ∧ Below (w.alloc o).heap.size (w.alloc o) w') := hcall
  have HS : Hid (Sc w s a l c e K V) := hS
  generalize nth l i = n at hq2 HV HCALL ⊢
  clear hcall hS hN hB ih
  rcases hq2 with h19 | h20
  · have HV2 : Hid (vT (tr l i) e = if (!hitB l e n 0) then 1 else 0) := by
      show _ = _
      rw [HV.out, if_pos h19]
    have HC : Hid (∀ o : Obj, Calls Tryz.prog 116 #[.pointer (some ⟨s, 0, none⟩), .int .i64 0, .agg #[.int .i64 n.op, .int .i64 n.w, .int .i64 n.k, .int .i64 n.a, .int .i64 n.b, .int .i64 n.c]] (w.alloc o) fun r w' => r = .returned (.bool (hitB l e n 0)) ∧ Below (w.alloc o).heap.size (w.alloc o) w') := HCALL.out 0
    have h1 : (n.op == 1) = false := by simp; omega
    have h9 : (n.op == 19) = true := by simp; omega
    clear h19 HCALL HV
    generalize hitB l e n 0 = hb at HV2 HC
    have HBA : Hid (∀ o : Obj, Below w.heap.size w (w.alloc o)) := fun o => (Below.refl _ _).alloc (Nat.le_refl _) _
    cases hb
    all_goals
      go_enter Tryz.func89, Tryz.ntmps89
      go_wp2_with (first | (go_at_call 116; refine (HC.out _).mono ?_; rintro e0 w4 ⟨rfl, hb4⟩; have HB4 : Hid (Below w.heap.size w w4) := (HBA.out _).trans (hb4.mono (by simp)); clear hb4) | (go_at_call 70; refine (iOne _ _).mono ?_; rintro e0 w4 ⟨rfl, rfl⟩))
      go_ret
      exact ⟨ret_int HV2.out.symm, ⟨K, V, HS.out.kept (S := fun _ => False) (Kept.ofBelow HB4.out) (fun h => h)⟩, Kept.ofBelow HB4.out⟩
  · have HV2 : Hid (vT (tr l i) e = if hitB l e n 1 then 1 else 0) := by
      show _ = _
      rw [HV.out, if_neg (by omega)]
    have HC : Hid (∀ o : Obj, Calls Tryz.prog 116 #[.pointer (some ⟨s, 0, none⟩), .int .i64 1, .agg #[.int .i64 n.op, .int .i64 n.w, .int .i64 n.k, .int .i64 n.a, .int .i64 n.b, .int .i64 n.c]] (w.alloc o) fun r w' => r = .returned (.bool (hitB l e n 1)) ∧ Below (w.alloc o).heap.size (w.alloc o) w') := HCALL.out 1
    have h1 : (n.op == 1) = false := by simp; omega
    have h9 : (n.op == 19) = false := by simp; omega
    have h8 : (n.op == 20) = true := by simp; omega
    clear h20 HCALL HV
    generalize hitB l e n 1 = hb at HV2 HC
    have HBA : Hid (∀ o : Obj, Below w.heap.size w (w.alloc o)) := fun o => (Below.refl _ _).alloc (Nat.le_refl _) _
    cases hb
    all_goals
      go_enter Tryz.func89, Tryz.ntmps89
      go_wp2_with (first | (go_at_call 116; refine (HC.out _).mono ?_; rintro e0 w4 ⟨rfl, hb4⟩; have HB4 : Hid (Below w.heap.size w w4) := (HBA.out _).trans (hb4.mono (by simp)); clear hb4) | (go_at_call 70; refine (iOne _ _).mono ?_; rintro e0 w4 ⟨rfl, rfl⟩))
      go_ret
      exact ⟨ret_int HV2.out.symm, ⟨K, V, HS.out.kept (S := fun _ => False) (Kept.ofBelow HB4.out) (fun h => h)⟩, Kept.ofBelow HB4.out⟩

end Go.Proofs.YtdmogjhabladcaaGreat.Pv10

/- The walk of the program's workOut: operators over their parts. -/
namespace Go.Proofs.YtdmogjhabladcaaGreat.Pv11
open Go.RowKit
open Nd0 Pl1 Tm0 Tm1 Tm5 Tm6 Tm8 Tr0 Rw0 Vl1 Vl2 Vm0 Vm1 Vm2 Kp1 Pv7 Pv9 Ic4
open Ws1 (ret_int ret_bool)
open Pg1 (iCount cnt cnt_parts cnt_le)
set_option linter.unusedVariables false

theorem node_a {l : List Nd} (hT : termOk l = true) {i : Nat} (hi : i < l.length) : 0 ≤ (nth l i).a ∧ (nth l i).a < (l.length : Int) ∧ (parts (nth l i) = [] → (nth l i).op = 0 ∨ (nth l i).op = 1) := by
  have hD := down_of hT i hi
  have hok := term_node hT hi
  simp only [nodeOk, Bool.and_eq_true] at hok
  have hs := hok.2
  generalize nth l i = n at hD hs
  by_cases h1 : n.op = 2 ∨ n.op = 17 ∨ n.op = 19 ∨ n.op = 20
  · have := hD n.a (by rw [parts_one h1]; simp)
    exact ⟨by omega, by omega, fun h => by rw [parts_one h1] at h; cases h⟩
  by_cases h2 : 3 ≤ n.op ∧ n.op ≤ 16
  · have := hD n.a (by rw [parts_two h2]; simp)
    exact ⟨by omega, by omega, fun h => by rw [parts_two h2] at h; cases h⟩
  by_cases h3 : n.op = 18
  · have := hD n.a (by rw [parts_three h3]; simp)
    exact ⟨by omega, by omega, fun h => by rw [parts_three h3] at h; cases h⟩
  unfold shapeOk at hs
  by_cases h0 : n.op = 0
  · rw [if_pos h0] at hs
    simp only [Bool.and_eq_true] at hs
    have := of_decide_eq_true hs.2
    exact ⟨by omega, by omega, fun _ => .inl h0⟩
  rw [if_neg h0] at hs
  by_cases hv : n.op = 1
  · rw [if_pos hv] at hs
    have := of_decide_eq_true hs
    exact ⟨by omega, by omega, fun _ => .inr hv⟩
  rw [if_neg hv, if_neg (by omega), if_neg (by omega), if_neg (by omega), if_neg (by omega), if_neg (by omega), if_neg (by omega), if_neg (by omega)] at hs
  cases hs
theorem parts4 (n : Nd) : parts n = [] ∨ parts n = [n.a] ∨ parts n = [n.a, n.b] ∨ parts n = [n.a, n.b, n.c] := by
  by_cases h1 : n.op = 2 ∨ n.op = 17 ∨ n.op = 19 ∨ n.op = 20
  · exact .inr (.inl (parts_one h1))
  by_cases h2 : 3 ≤ n.op ∧ n.op ≤ 16
  · exact .inr (.inr (.inl (parts_two h2)))
  by_cases h3 : n.op = 18
  · exact .inr (.inr (.inr (parts_three h3)))
  exact .inl (parts_none h1 h2 h3)
/-- The parts stand ahead in A, B and C. -/
theorem parts_abc (n : Nd) {d : Nat} (h : d < (parts n).length) : d < 3 ∧ [n.a, n.b, n.c][d]? = some (parts n)[d] := by
  rcases parts4 n with e | e | e | e
  · rw [e] at h; simp at h
  all_goals
    have h2 := h
    rw [e] at h2
    simp only [List.length_cons, List.length_nil] at h2
    refine ⟨by omega, ?_⟩
    have h3 : ([n.a, n.b, n.c] : List Int)[d]? = (parts n)[d]? := by
      rw [e]
      first
        | done
        | (rcases (show d = 0 ∨ d = 1 ∨ d = 2 by omega) with q | q | q <;> subst q <;> first | rfl | (exfalso; omega))
    rw [h3, List.getElem?_eq_getElem h]
/-- Where a node has no part, the width of one is nothing. -/
theorem vT_w {l : List Nd} (hT : termOk l = true) {i : Nat} (hi : i < l.length) (e : List Int) (h1 : ¬ (nth l i).op = 1) (hq : quant (nth l i).op = false) :
    vT (tr l i) e = applyL (nth l i).op (nth l i).w (nth l i).k (nth l (nth l i).a.toNat).w ((pvs l e (nth l i)).getD 0 0) ((pvs l e (nth l i)).getD 1 0) ((pvs l e (nth l i)).getD 2 0) := by
  have hN : ∀ k, k < l.length → nodeOk l k = true := fun k hk => term_node hT hk
  rw [vT_other (down_of hT) hN hi e h1 hq]
  obtain ⟨a0, a1, ap⟩ := node_a hT hi
  cases hp : parts (nth l i) with
  | nil =>
    have h0 : (nth l i).op = 0 := by
      rcases ap hp with h | h
      · exact h
      · exact absurd h h1
    have e1 : pw l (nth l i) = 1 := by unfold pw; rw [hp]
    have e2 : pvs l e (nth l i) = [] := by unfold pvs; rw [hp]; rfl
    have hw := node_width (hN i hi)
    have hw2 := node_width (hN (nth l i).a.toNat (by omega))
    rw [e1, e2, h0]
    show applyL 0 _ _ 1 0 0 0 = applyL 0 _ _ _ 0 0 0
    rw [app_in hw ⟨by omega, by omega⟩ ⟨by omega, by omega⟩ ⟨by omega, by omega⟩ ⟨by omega, by omega⟩, app_in hw hw2 ⟨by omega, by omega⟩ ⟨by omega, by omega⟩ ⟨by omega, by omega⟩]
    rfl
  | cons p r =>
    have e1 : pw l (nth l i) = (nth l p.toNat).w := by unfold pw; rw [hp]
    have e2 : p = (nth l i).a := by
      rcases parts4 (nth l i) with h | h | h | h
      · rw [h] at hp; cases hp
      · rw [h] at hp; cases hp; rfl
      · rw [h] at hp; cases hp; rfl
      · rw [h] at hp; cases hp; rfl
    rw [e1, e2]

/-- The blocks that workOut makes. -/
structure Works (w w3 : World) (n : Nd) : Prop where
  sz : w3.heap.size = w.heap.size + 1 + 1 + 1
  below : Below w.heap.size w w3
  nd : NodeAt w3 w.heap.size 0 n
  pl : ∀ d (h : d < 3), w3.cell? ⟨w.heap.size + 1, d, none⟩ = some (.int .i64 ([n.a, n.b, n.c][d]'(by simpa using h)))
  vals : Row w3 (w.heap.size + 1 + 1) 3 (fun j => .int .i64 ((fun _ => 0) j))
theorem work_facts (w : World) (n : Nd) (t1 t2 t3 : Nat) (w3 : World) (h : w3 = ((w.alloc (.cells #[.int .i64 n.op, .int .i64 n.w, .int .i64 n.k, .int .i64 n.a, .int .i64 n.b, .int .i64 n.c] t1)).alloc (.cells #[.int .i64 n.a, .int .i64 n.b, .int .i64 n.c] t2)).alloc (.cells #[.int .i64 0, .int .i64 0, .int .i64 0] t3)) : Works w w3 n := by
  obtain ⟨wa, ha⟩ : ∃ wa, wa = w.alloc (.cells #[.int .i64 n.op, .int .i64 n.w, .int .i64 n.k, .int .i64 n.a, .int .i64 n.b, .int .i64 n.c] t1) := ⟨_, rfl⟩
  obtain ⟨wb, hb⟩ : ∃ wb, wb = wa.alloc (.cells #[.int .i64 n.a, .int .i64 n.b, .int .i64 n.c] t2) := ⟨_, rfl⟩
  rw [← ha, ← hb] at h
  have sa : wa.heap.size = w.heap.size + 1 := by rw [ha]; simp
  have sb : wb.heap.size = w.heap.size + 1 + 1 := by rw [hb]; simp [sa]
  have s3 : w3.heap.size = w.heap.size + 1 + 1 + 1 := by rw [h]; simp [sb]
  have ba : Below w.heap.size w wa := by rw [ha]; exact (Below.refl _ _).alloc (Nat.le_refl _) _
  have bb : Below wa.heap.size wa wb := by rw [hb]; exact (Below.refl _ _).alloc (Nat.le_refl _) _
  have b3 : Below wb.heap.size wb w3 := by rw [h]; exact (Below.refl _ _).alloc (Nat.le_refl _) _
  have bb3 : Below wa.heap.size wa w3 := bb.trans (b3.mono (by omega))
  refine ⟨s3, ba.trans (bb3.mono (by omega)), ?_, fun d hd => ?_, ?_⟩
  · refine NodeAt.below ?_ bb3 (show w.heap.size < _ by omega)
    rw [ha]
    exact Dw4.node_new w n t1 _ rfl 0 (by simp)
  · rw [← sa, b3.cell (p := ⟨wa.heap.size, d, none⟩) (show wa.heap.size < _ by omega), hb, World.cell?_alloc_new]
    match d, hd with
    | 0, _ => rfl
    | 1, _ => rfl
    | 2, _ => rfl
  · rw [← sb, h]
    exact Row.new wb #[.int .i64 0, .int .i64 0, .int .i64 0] t3 3 (fun _ => .int .i64 0) (fun j hj => by
      match j, hj with
      | 0, _ => rfl
      | 1, _ => rfl
      | 2, _ => rfl)

theorem kept11 {W W' : World} {b s x o t : Nat} {v0 v1 v2 v3 v4 v5 v6 v7 v8 v9 v10 : Value}
    (h : W.cell? ⟨b, 0, none⟩ = some v0 ∧ W.cell? ⟨b, 1, none⟩ = some v1 ∧ W.cell? ⟨b, 2, none⟩ = some v2 ∧ W.cell? ⟨b, 3, none⟩ = some v3 ∧ W.cell? ⟨b, 4, none⟩ = some v4 ∧ W.cell? ⟨b, 5, none⟩ = some v5 ∧ W.cell? ⟨s, 0, none⟩ = some v6 ∧ W.cell? ⟨x, o, none⟩ = some v7 ∧ W.cell? ⟨t, 0, none⟩ = some v8 ∧ W.cell? ⟨t, 1, none⟩ = some v9 ∧ W.cell? ⟨t, 2, none⟩ = some v10) (hb : Below W.heap.size W W') :
    W'.cell? ⟨b, 0, none⟩ = some v0 ∧ W'.cell? ⟨b, 1, none⟩ = some v1 ∧ W'.cell? ⟨b, 2, none⟩ = some v2 ∧ W'.cell? ⟨b, 3, none⟩ = some v3 ∧ W'.cell? ⟨b, 4, none⟩ = some v4 ∧ W'.cell? ⟨b, 5, none⟩ = some v5 ∧ W'.cell? ⟨s, 0, none⟩ = some v6 ∧ W'.cell? ⟨x, o, none⟩ = some v7 ∧ W'.cell? ⟨t, 0, none⟩ = some v8 ∧ W'.cell? ⟨t, 1, none⟩ = some v9 ∧ W'.cell? ⟨t, 2, none⟩ = some v10 := by
  obtain ⟨h0, h1, h2, h3, h4, h5, h6, h7, h8, h9, h10⟩ := h
  exact ⟨(hb.cell (lt_of_cell h0)).trans h0, (hb.cell (lt_of_cell h1)).trans h1, (hb.cell (lt_of_cell h2)).trans h2, (hb.cell (lt_of_cell h3)).trans h3, (hb.cell (lt_of_cell h4)).trans h4, (hb.cell (lt_of_cell h5)).trans h5, (hb.cell (lt_of_cell h6)).trans h6, (hb.cell (lt_of_cell h7)).trans h7, (hb.cell (lt_of_cell h8)).trans h8, (hb.cell (lt_of_cell h9)).trans h9, (hb.cell (lt_of_cell h10)).trans h10⟩

set_option maxRecDepth 100000 in
set_option maxHeartbeats 8000000 in
theorem work_other (hIA : IApply) {l : List Nd} (hT : termOk l = true) {i : Nat} (hi : i < l.length) (h1 : ¬ (nth l i).op = 1) (hq : quant (nth l i).op = false) (ih : ∀ p ∈ parts (nth l i), PVal l p.toNat) : PWork l i := by
  intro w s a c e K V hN hag he hS hF
  have HV : Hid (vT (tr l i) e = applyL (nth l i).op (nth l i).w (nth l i).k (nth l (nth l i).a.toNat).w ((pvs l e (nth l i)).getD 0 0) ((pvs l e (nth l i)).getD 1 0) ((pvs l e (nth l i)).getD 2 0)) := vT_w hT hi e h1 hq
  have HWF : Hid ((Lit.int .i64 (nth l i).k).wf = true) := wf_small (node_k (down_of hT) (fun k hk => term_node hT hk) hi)
  have HPD : Hid (∀ p ∈ parts (nth l i), 0 ≤ p ∧ p < (i : Int)) := down_of hT i hi
  have HFP : Hid (∀ p ∈ parts (nth l i), FitN l p.toNat e) := fun p hp => hF.part (down_of hT) hi hq hp
  have HIH : Hid (∀ p ∈ parts (nth l i), PVal l p.toNat) := ih
  have HPV : Hid (pvs l e (nth l i) = (parts (nth l i)).map fun p => vT (tr l p.toNat) e) := rfl
  obtain ⟨na0, na1, _⟩ := node_a hT hi
  have HCN := cnt_parts (nth l i)
  have HIAH : Hid IApply := hIA
  have hag' := hag
  rcases hN.2 with h0 | ⟨xb, xo, rfl, hc⟩
  · omega
  have hxb : xb < w.heap.size := (hc i hi).lt
  have HWD : Hid (∀ m, m < l.length → w.cell? ⟨xb, xo + m * 6 + 1, none⟩ = some (.int .i64 (nth l m).w)) := fun m hm => by
    have := (hc m hm).c1
    rw [nth_get hm] at this
    exact this
  have HN : Hid (Nodes w (some ⟨xb, xo, none⟩) l) := hN
  have HS : Hid (Sc w s (some ⟨xb, xo, none⟩) l c e K V) := hS
  have HAG : Hid (∀ x, some (⟨xb, xo, none⟩ : Addr) = some x → x.block ≠ s) := hag
  have hsl := hS.lt
  generalize pvs l e (nth l i) = pv at HV HPV
  have h19 : ¬ (nth l i).op = 19 ∧ ¬ (nth l i).op = 20 := by simpa [quant] using hq
  generalize nth l i = n at HV HWF HPD HFP HIH HPV na0 na1 HCN h1 h19 ⊢
  have t1 : (n.op == 1) = false := by simpa using h1
  have t2 : (n.op == 19) = false := by simpa using h19.1
  have t3 : (n.op == 20) = false := by simpa using h19.2
  clear hN hS hag hag' hc ih hF h1 h19 hIA hq
  go_enter Tryz.func89, Tryz.ntmps89
  go_wp2_with (go_at_call 108; refine (iCount _ _).mono ?_; rintro e0 w4 ⟨rfl, rfl⟩)
  obtain ⟨w3, hw3⟩ : ∃ w3 : World, w3 = ((w.alloc (.cells #[.int .i64 n.op, .int .i64 n.w, .int .i64 n.k, .int .i64 n.a, .int .i64 n.b, .int .i64 n.c] 31)).alloc (.cells #[.int .i64 n.a, .int .i64 n.b, .int .i64 n.c] 137)).alloc (.cells #[.int .i64 0, .int .i64 0, .int .i64 0] 137) := ⟨_, rfl⟩
  have W := work_facts w n _ _ _ w3 hw3
  rw [← hw3]
  clear hw3
  obtain ⟨gp, hgp⟩ : ∃ gp : Nat, gp = w.heap.size + 1 := ⟨_, rfl⟩
  obtain ⟨gv, hgv⟩ : ∃ gv : Nat, gv = w.heap.size + 1 + 1 := ⟨_, rfl⟩
  rw [← hgv, ← hgp]
  have HGP : Hid (gp = w.heap.size + 1 ∧ gv = w.heap.size + 1 + 1 ∧ w3.heap.size = w.heap.size + 1 + 1 + 1) := ⟨hgp, hgv, W.sz⟩
  have HS3 : Hid (Sc w3 s (some ⟨xb, xo, none⟩) l c e K V) := HS.out.kept (S := fun _ => False) (Kept.ofBelow W.below) (fun h => h)
  have HR3 : Hid (Row w3 gv 3 (fun j => .int .i64 ((fun _ => 0) j))) := by rw [hgv]; exact W.vals
  have HNA3 : Hid (NodeAt w3 w.heap.size 0 n) := W.nd
  have HPL : Hid (∀ d (h : d < 3), w3.cell? ⟨gp, d, none⟩ = some (.int .i64 ([n.a, n.b, n.c][d]'(by simpa using h)))) := by rw [hgp]; exact W.pl
  have HBW : Hid (Below w.heap.size w w3) := W.below
  have HCN2 : Hid ((parts n).length = cnt n.op) := HCN
  have hc3 := cnt_le n.op
  clear W hgp hgv HCN
  generalize cnt n.op = cn at HCN2 hc3 ⊢
  go_loopw [42] (fun q wr => ∃ d : Nat, d ≤ cn ∧ q = .int .i64 (d : Int) ∧ ∃ (F : Nat → Int) (K' : Nat → Bool) (V' : Nat → Int), Row wr gv 3 (fun j => .int .i64 (F j)) ∧ (∀ j, j < 3 → F j = if j < d then pv.getD j 0 else 0) ∧ Sc wr s (some ⟨xb, xo, none⟩) l c e K' V' ∧ Kept (fun b => b = s ∨ b = gv) w3 wr) (fun q _ => cn - (intOf q).toNat)
  case atStart => exact ⟨0, Nat.zero_le _, rfl, _, K, V, HR3.out, fun j _ => rfl, HS3.out, Kept.refl _ _⟩
  case round =>
    obtain ⟨d, hd, rfl, F, K', V', hR, hF, hS4, hK⟩ := hrel
    have HR : Hid (Row wr gv 3 (fun j => .int .i64 (F j))) := hR
    have HF : Hid (∀ j, j < 3 → F j = if j < d then pv.getD j 0 else 0) := hF
    have HS4 : Hid (Sc wr s (some ⟨xb, xo, none⟩) l c e K' V') := hS4
    have HK : Hid (Kept (fun b => b = s ∨ b = gv) w3 wr) := hK
    have hG := HGP.out
    have HNW : Hid (Nodes wr (some ⟨xb, xo, none⟩) l) := (HN.out.below HBW.out).kept hK (fun y hy h => by
      have e1 := Option.some.inj hy
      subst e1
      rcases h with h | h
      · exact HAG.out _ rfl h
      · have h' : xb = gv := h
        omega)
    have hxk : ¬ (xb = s ∨ xb = gv) := fun h => by
      rcases h with h | h
      · exact HAG.out _ rfl h
      · omega
    have hpk : ¬ (gp = s ∨ gp = gv) := by omega
    have hnk : ¬ (w.heap.size = s ∨ w.heap.size = gv) := by omega
    clear hR hF hS4 hK
    by_cases hlt : d < cn
    · have hdz : (d : Int) < (cn : Int) := by omega
      have hdl : d < (parts n).length := by rw [HCN2.out]; exact hlt
      obtain ⟨hd3, habc⟩ := parts_abc n hdl
      have hpp := HPD.out (parts n)[d] (List.getElem_mem hdl)
      have hih := HIH.out (parts n)[d] (List.getElem_mem hdl)
      have hfp := HFP.out (parts n)[d] (List.getElem_mem hdl)
      have r0 : wr.cell? ⟨gp, d, none⟩ = some (.int .i64 (parts n)[d]) := by
        rw [HK.out.cell (p := ⟨gp, d, none⟩) (show gp < w3.heap.size by omega) hpk, HPL.out d hd3]
        congr 2
        have h5 := habc
        rw [List.getElem?_eq_getElem (by simpa using hd3)] at h5
        exact Option.some.inj h5
      have HPE : Hid (∀ j, j = d → pv.getD j 0 = vT (tr l ((parts n)[d]).toNat) e) := by
        show ∀ _, _
        intro j hj
        subst hj
        rw [HPV.out, List.getD_eq_getElem?_getD, List.getElem?_map, List.getElem?_eq_getElem hdl]
        rfl
      generalize (parts n)[d] = p at hpp hih hfp r0 HPE
      obtain ⟨m, rfl⟩ : ∃ m : Nat, p = (m : Int) := ⟨p.toNat, by omega⟩
      rw [Int.toNat_natCast] at hih hfp HPE
      obtain ⟨s1, s2⟩ := HR.out d hd3
      have hd3z : (d : Int) < 3 := by omega
      have HIP : Hid (PVal l m) := hih
      have HFT : Hid (FitN l m e) := hfp
      have gsv : ¬ gv = s := by omega
      clear hih hfp habc hG hpk hnk hxk
      go_wp2_with fail
      refine (HIP.out wr s _ c e K' V' HNW.out HAG.out he HS4.out HFT.out).mono ?_
      rintro x0 w4 ⟨rfl, ⟨K5, V5, hS5⟩, hK5⟩
      have s3 : w4.cell? ⟨gv, d, none⟩ = some (.int .i64 (F d)) := (hK5.cell (p := ⟨gv, d, none⟩) (lt_of_cell s1) gsv).trans s1
      have s4 : w4.frozen? ⟨gv, d, none⟩ = false := (hK5.frozen (p := ⟨gv, d, none⟩) (lt_of_cell s1) gsv).trans s2
      have HR5 : Hid (Row (w4.setCell ⟨gv, d, none⟩ (.int .i64 (vT (tr l m) e))) gv 3 (fun j => .int .i64 ((fun j => if j = d then vT (tr l m) e else F j) j))) := by
        refine ((HR.out.kept hK5 gsv).set (p := d) hd3 _).congr (fun j hj => ?_)
        dsimp only
        split <;> rfl
      have HS5 : Hid (Sc (w4.setCell ⟨gv, d, none⟩ (.int .i64 (vT (tr l m) e))) s (some ⟨xb, xo, none⟩) l c e K5 V5) := hS5.kept (S := fun b => b = gv) ((Kept.refl (fun b => b = gv) w4).setCell (p := ⟨gv, d, none⟩) rfl _) (fun h => gsv h.symm)
      have HK5 : Hid (Kept (fun b => b = s ∨ b = gv) w3 (w4.setCell ⟨gv, d, none⟩ (.int .i64 (vT (tr l m) e)))) := (HK.out.trans (hK5.mono (fun b h => .inl h))).setCell (p := ⟨gv, d, none⟩) (.inr rfl) _
      have HF5 : Hid (∀ j, j < 3 → (fun j => if j = d then vT (tr l m) e else F j) j = if j < d + 1 then pv.getD j 0 else 0) := by
        show ∀ _, _
        intro j hj
        dsimp only
        by_cases ej : j = d
        · rw [if_pos ej, if_pos (by omega), HPE.out j ej]
        · rw [if_neg ej, HF.out j hj]
          by_cases e2 : j < d
          · rw [if_pos e2, if_pos (by omega)]
          · rw [if_neg e2, if_neg (by omega)]
      generalize vT (tr l m) e = val at HR5 HS5 HK5 HF5
      clear hS5 hK5 r0 s1 s2
      go_wp2
      go_roundw
      case rel => exact ⟨d + 1, by omega, by go_num, _, K5, V5, HR5.out, HF5.out, HS5.out, HK5.out⟩
      case measure => simp [intOf]; omega
    · have hdz : ¬ (d : Int) < (cn : Int) := by omega
      obtain ⟨ma, hma⟩ : ∃ ma : Nat, n.a = (ma : Int) := ⟨n.a.toNat, by omega⟩
      have hal : ma < l.length := by omega
      have halz : (ma : Int) < (l.length : Int) := by omega
      have hs3 : w.heap.size < w3.heap.size := by omega
      have HFE : Hid (∀ j, j < 3 → F j = pv.getD j 0) := by
        show ∀ _, _
        intro j hj
        rw [HF.out j hj]
        by_cases e2 : j < d
        · rw [if_pos e2]
        · rw [if_neg e2, HPV.out, List.getD_eq_getElem?_getD, List.getElem?_eq_none (by rw [List.length_map, HCN2.out]; omega)]; rfl
      have HVE : Hid (vT (tr l i) e = applyL n.op n.w n.k (nth l ma).w (F 0) (F 1) (F 2)) := by
        show _ = _
        rw [HV.out, HFE.out 0 (by omega), HFE.out 1 (by omega), HFE.out 2 (by omega), hma, Int.toNat_natCast]
      have HSS : wr.cell? ⟨w.heap.size, 0, none⟩ = some (.int .i64 n.op) ∧ wr.cell? ⟨w.heap.size, 1, none⟩ = some (.int .i64 n.w) ∧ wr.cell? ⟨w.heap.size, 2, none⟩ = some (.int .i64 n.k) ∧ wr.cell? ⟨w.heap.size, 3, none⟩ = some (.int .i64 n.a) ∧ wr.cell? ⟨w.heap.size, 4, none⟩ = some (.int .i64 n.b) ∧ wr.cell? ⟨w.heap.size, 5, none⟩ = some (.int .i64 n.c) ∧ wr.cell? ⟨s, 0, none⟩ = some (.slice (some ⟨xb, xo, none⟩) l.length c) ∧ wr.cell? ⟨xb, xo + ma * 6 + 1, none⟩ = some (.int .i64 (nth l ma).w) ∧ wr.cell? ⟨gv, 0, none⟩ = some (.int .i64 (F 0)) ∧ wr.cell? ⟨gv, 1, none⟩ = some (.int .i64 (F 1)) ∧ wr.cell? ⟨gv, 2, none⟩ = some (.int .i64 (F 2)) := by
        obtain ⟨q0, q1, q2, q3, q4, q5⟩ := HNA3.out
        refine ⟨(HK.out.cell (p := ⟨w.heap.size, 0, none⟩) hs3 hnk).trans q0, (HK.out.cell (p := ⟨w.heap.size, 1, none⟩) hs3 hnk).trans q1, (HK.out.cell (p := ⟨w.heap.size, 2, none⟩) hs3 hnk).trans q2, (HK.out.cell (p := ⟨w.heap.size, 3, none⟩) hs3 hnk).trans q3, (HK.out.cell (p := ⟨w.heap.size, 4, none⟩) hs3 hnk).trans q4, (HK.out.cell (p := ⟨w.heap.size, 5, none⟩) hs3 hnk).trans q5, HS4.out.c0, ?_, (HR.out 0 (by omega)).1, (HR.out 1 (by omega)).1, (HR.out 2 (by omega)).1⟩
        rw [HK.out.cell (p := ⟨xb, xo + ma * 6 + 1, none⟩) (show xb < w3.heap.size by omega) hxk, HBW.out.cell (p := ⟨xb, xo + ma * 6 + 1, none⟩) hxb]
        exact HWD.out ma hal
      rw [hma] at HSS
      have HMA : Hid (n.a = (ma : Int)) := hma
      clear hG hpk hnk hxk hma
      go_wp2_with fail
      go_region_held (fun w' => w'.cell? ⟨w.heap.size, 0, none⟩ = some (.int .i64 n.op) ∧ w'.cell? ⟨w.heap.size, 1, none⟩ = some (.int .i64 n.w) ∧ w'.cell? ⟨w.heap.size, 2, none⟩ = some (.int .i64 n.k) ∧ w'.cell? ⟨w.heap.size, 3, none⟩ = some (.int .i64 (ma : Int)) ∧ w'.cell? ⟨w.heap.size, 4, none⟩ = some (.int .i64 n.b) ∧ w'.cell? ⟨w.heap.size, 5, none⟩ = some (.int .i64 n.c) ∧ w'.cell? ⟨s, 0, none⟩ = some (.slice (some ⟨xb, xo, none⟩) l.length c) ∧ w'.cell? ⟨xb, xo + ma * 6 + 1, none⟩ = some (.int .i64 (nth l ma).w) ∧ w'.cell? ⟨gv, 0, none⟩ = some (.int .i64 (F 0)) ∧ w'.cell? ⟨gv, 1, none⟩ = some (.int .i64 (F 1)) ∧ w'.cell? ⟨gv, 2, none⟩ = some (.int .i64 (F 2))) ((first | exact HSS | exact kept11 (W := wr.drew) HSS hb4)) ((go_at_call 117; refine (HIAH.out ⟨n.op, n.w, n.k, (ma : Int), n.b, n.c⟩ (nth l ma).w (F 0) (F 1) (F 2) _ HWF.out).mono ?_; rintro x0 w4 ⟨rfl, hb4⟩; have HB4 : Hid (Below wr.heap.size wr w4) := (Below.refl wr.heap.size wr).drew.trans hb4))
      go_wp2
      go_ret
      have hb := HB4.out
      have hG := HGP.out
      refine ⟨ret_int HVE.out.symm, ⟨K', V', HS4.out.kept (S := fun _ => False) (Kept.ofBelow hb) (fun h => h)⟩, ?_⟩
      have h1 : Kept (fun b => b = s ∨ b = gv) w3 w4 := HK.out.trans (Kept.ofBelow hb)
      exact Kept.past (Kept.ofBelow HBW.out) h1 (fun b h => by
        rcases h with h | h
        · exact .inl h
        · exact .inr (by omega))

end Go.Proofs.YtdmogjhabladcaaGreat.Pv11

/- The program's value, workOut and comesTo: by induction on the place. -/
namespace Go.Proofs.YtdmogjhabladcaaGreat.Pv12
open Go.RowKit
open Nd0 Pl1 Tm0 Tm1 Tm5 Tm6 Tm8 Tr0 Rw0 Vl1 Vl2 Vm0 Vm1 Vm2 Kp1 Pv7 Pv9 Ic4

/-- Each place is worked out. -/
theorem pVal (hIA : IApply) {l : List Nd} (hT : termOk l = true) (h80 : l.length ≤ 80) : ∀ i, i < l.length → PVal l i := by
  intro i
  induction i using Nat.strongRecOn with
  | ind i ih =>
    intro hi
    refine value_of hi h80 ?_
    have hp : ∀ p ∈ parts (nth l i), PVal l p.toNat := fun p hp => by
      have := down_of hT i hi p hp
      exact ih p.toNat (by omega) (by omega)
    by_cases h1 : (nth l i).op = 1
    · exact Pv10.work_var hT hi h1
    cases hq : quant (nth l i).op with
    | true =>
      have hq2 : (nth l i).op = 19 ∨ (nth l i).op = 20 := by simpa [quant] using hq
      exact Pv10.work_quant hT hi hq (Pv8.come_of hT hi hq (hp _ (by rw [parts_one (by omega)]; simp)))
    | false => exact Pv11.work_other hIA hT hi h1 hq hp

end Go.Proofs.YtdmogjhabladcaaGreat.Pv12
