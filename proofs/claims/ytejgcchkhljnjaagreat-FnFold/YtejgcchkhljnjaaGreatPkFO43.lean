/- Small texts of mine, one behind the other. -/
import Derived.Test.YtejgcchkhljnjaaGreatPkFO15
import Derived.Test.YtejgcchkhljnjaaGreatPkFO26
import Derived.Test.YtejgcchkhljnjaaGreatPkFO35
import Derived.Test.YtejgcchkhljnjaaGreatPkFO28
import Derived.Test.YtejgcchkhljnjaaGreatPkFO16
import Derived.Test.YtejgcchkhljnjaaGreatPv13
import Derived.Test.YtejgcchkhljnjaaGreatPkFO40
/- The walk of the program's boundOnce. -/
namespace Go.Proofs.YtejgcchkhljnjaaGreat.Pg12
open Go.RowKit
open Nd0 Pl1 Tm0 Tm1 Tm2 Tm4 Tm5 Tm6 Tm8 Tm9 Tm10 Ap0 Pg1 Rw0 Rw1
open Ws1 (ret_int ret_bool)
set_option linter.unusedVariables false

theorem reach_step {l : List Nd} {y j : Nat} (hf : flag (reachL l) y = true) (h : (reachTo l y).length = j) : (reachTo l (y + 1)).length = j + 1 := by
  rw [reachTo_succ, hf, if_pos rfl, List.length_append, h]; rfl
end Go.Proofs.YtejgcchkhljnjaaGreat.Pg12

/- The walk of the program's movable. -/
namespace Go.Proofs.YtejgcchkhljnjaaGreat.Pg13
open Go.RowKit
open Nd0 Pl1 Tm0 Tm1 Tm2 Tm4 Tm5 Tm6 Tm8 Tm9 Tm10 Ap0 Pg1 Pg2 Rw0 Rw1 Pg12
open Pg7 (zeros zeros_get)
open Ws1 (ret_int ret_bool)
set_option linter.unusedVariables false

end Go.Proofs.YtejgcchkhljnjaaGreat.Pg13

/- The walks of the program's Sentence and Bits. -/
namespace Go.Proofs.YtejgcchkhljnjaaGreat.Pg14
open Go.RowKit
open Nd0 Pl1 Tm0 Tm1 Tm2 Tm4 Tm5 Tm6 Tm7 Tm8 Tm9 Tm10 Tm11 Ap0 Pg1 Rw0 Pg12 Pg13
open Lx1 (ITermOk)
open Lx2 (IReached)

open Ws1 (ret_int ret_bool)
set_option linter.unusedVariables false

set_option maxRecDepth 100000 in
set_option maxHeartbeats 4000000 in
theorem iQBits (hRE : IReached) (w : World) (a : Option Addr) (l : List Nd) (c : Nat) (hN : Nodes w a l) (hcap : l.length ≤ c) (hlen : l.length ≤ 1048576) (hT : termOk l = true) :
    Calls Tryz.prog 89 #[.slice a l.length c] w fun e w' => e = .returned (.int .i64 (bitsTo l l.length)) ∧ Below w.heap.size w w' := by
  have HN : Hid (Nodes w a l) := hN
  have HRE : Hid IReached := hRE
  have HCAP : Hid (l.length ≤ c) := hcap
  have HT : Hid (termOk l = true) := hT
  obtain ⟨hl1, hl2⟩ := term_len hT
  clear hcap hN hRE hT
  go_enter Tryz.func89, Tryz.ntmps89
  go_wp2_with fail
  refine (HRE.out _ _ l c HN.out HCAP.out hlen).mono ?_
  rintro e w2 ⟨⟨a2, c2, rfl, hi2⟩, hb2⟩
  have HRE2 : Hid (reachedL l = reachTo l l.length) := by
    show _ = _
    unfold reachedL; rw [HT.out]; rfl
  rw [HRE2.out] at hi2 ⊢
  have HI2 : Hid (Ints w2 a2 (reachTo l l.length)) := hi2.ints
  have HB2 : Hid (Below w.heap.size w w2) := hb2
  have hRl := reachTo_length l l.length
  clear hi2 hb2
  go_wp2_with fail
  go_loop [3, 9] (fun v q => ∃ (j : Nat) (x : Nat), j ≤ (reachTo l l.length).length ∧ q = .int .i64 j ∧ x ≤ l.length ∧ (reachTo l x).length = j ∧ v = .int .i64 (bitsTo l x)) (fun _ q => (reachTo l l.length).length - (intOf q).toNat)
  case atStart => exact ⟨0, 0, Nat.zero_le _, rfl, Nat.zero_le _, rfl, rfl⟩
  case round =>
    obtain ⟨j, x, hj, rfl, hxl, hxj, rfl⟩ := hrel
    have HXJ : Hid ((reachTo l x).length = j) := hxj
    clear hxj
    by_cases hlt : j < (reachTo l l.length).length
    · have hjz : (j : Int) < ((reachTo l l.length).length : Int) := by omega
      obtain ⟨y, hy, hyl, hyf, hyj⟩ := reach_at l l.length j hlt
      rcases HI2.out.2 with h0 | ⟨pb, po, rfl, hpc⟩
      · omega
      have q0 := hpc j hlt
      rw [hy] at q0
      clear hpc hy
      rcases (HN.out.below HB2.out).2 with h0 | ⟨xb, xo, rfl, hc⟩
      · omega
      have hyz : (y : Int) < (l.length : Int) := by omega
      have p0 := (hc y hyl).c0
      have p4 := (hc y hyl).c4
      rw [nth_get hyl] at p0 p4
      clear hc
      have HBY : Hid (bitsTo l y = bitsTo l x) := bits_same l (by rw [HXJ.out, hyj])
      have HRS : Hid ((reachTo l (y + 1)).length = j + 1) := reach_step hyf hyj
      have HBN : Hid (bitsTo l (y + 1) = if quant (nth l y).op then bitsTo l x + (nth l y).b else bitsTo l x) := by
        show (if _ then _ else _) = _
        rw [hyf, Bool.true_and, HBY.out]
      have hbb := bits_bound HT.out x hxl
      have HQB : Hid (quant (nth l y).op = true → 1 ≤ (nth l y).b ∧ (nth l y).b ≤ 8) := fun h => quant_b (term_node HT.out hyl) h
      clear hyf hyj
      generalize bitsTo l x = z at HBY HBN hbb ⊢
      generalize nth l y = n at p0 p4 HBN HQB
      obtain ⟨hb0, hb9⟩ := hbb
      cases hqu : quant n.op
      · have HB2' : Hid (bitsTo l (y + 1) = z) := by
          show _ = _
          rw [HBN.out, hqu]; rfl
        go_wp2_with (go_at_call 97; refine (iQuant _ _).mono ?_; rintro e w' ⟨rfl, rfl⟩; rw [hqu])
        go_round
        case rel => exact ⟨j + 1, y + 1, by omega, by go_num, by omega, HRS.out, by rw [HB2'.out]⟩
        case measure => simp [intOf]; omega
      · have HB2' : Hid (bitsTo l (y + 1) = z + n.b) := by
          show _ = _
          rw [HBN.out, hqu]; rfl
        obtain ⟨hq1, hq2⟩ := HQB.out hqu
        go_wp2_with (go_at_call 97; refine (iQuant _ _).mono ?_; rintro e w' ⟨rfl, rfl⟩; rw [hqu])
        go_round
        case rel => exact ⟨j + 1, y + 1, by omega, by go_num, by omega, HRS.out, by rw [HB2'.out]⟩
        case measure => simp [intOf]; omega
    · have hjz : ¬ (j : Int) < ((reachTo l l.length).length : Int) := by omega
      have HBE : Hid (bitsTo l l.length = bitsTo l x) := bits_same l (by rw [HXJ.out]; omega)
      go_wp2
      go_ret
      exact ⟨ret_int (by rw [HBE.out]), HB2.out⟩

end Go.Proofs.YtejgcchkhljnjaaGreat.Pg14

/- The walk of the program's hasValue. -/
namespace Go.Proofs.YtejgcchkhljnjaaGreat.Pv14
open Go.RowKit
open Nd0 Pl1 Tm0 Tm1 Tm2 Tm5 Tm6 Tm8 Tm11 Tr0 Rw0 Vl1 Vl2 Vm0 Vm1 Sv5 Vm3 Pv5 Pv13
open Lx1 (ITermOk)
open Lx2 (IReached)
open Pg14 (iQBits)
open Ws1 (ret_int ret_bool)
set_option linter.unusedVariables false

def upTo (r : Nat → Nat) (e : List Int) (b : Bool) : Nat → Bool
  | 0 => b
  | v + 1 => upTo r e b v && wordsB (r v) (e.getD v 0)
theorem upTo_false (r : Nat → Nat) (e : List Int) (v : Nat) : upTo r e false v = false := by
  induction v with
  | zero => rfl
  | succ v ih => show (_ && _) = _; rw [ih]; rfl
theorem upTo_true (r : Nat → Nat) (e : List Int) (v : Nat) : upTo r e true v = (List.range v).all fun v => wordsB (r v) (e.getD v 0) := by
  induction v with
  | zero => rfl
  | succ v ih => show (_ && _) = _; rw [ih, List.range_succ, List.all_append]; simp
theorem upTo_fit {l : List Nd} {r : Nat → Nat} {b : Bool} (h : FW l r b) (e : List Int) : upTo r e b 8 = fitT (root l) e := by
  obtain ⟨h1, _, h3⟩ := h
  cases hn : needT (root l) with
  | none =>
    rw [hn] at h1
    rw [h1, fit_none hn]
    exact upTo_false r e 8
  | some q =>
    rw [hn] at h1
    rw [h1, fit_some hn]
    show upTo r e true 8 = _
    rw [upTo_true]
    have h4 := h3 q hn
    show _ = (List.range 8).all fun v => wordsB (q.getD v 0) (e.getD v 0)
    rw [Bool.eq_iff_iff, List.all_eq_true, List.all_eq_true]
    constructor
    · intro h v hv
      rw [← h4 v (List.mem_range.1 hv)]; exact h v hv
    · intro h v hv
      rw [h4 v (List.mem_range.1 hv)]; exact h v hv

set_option maxRecDepth 100000 in
set_option maxHeartbeats 4000000 in
theorem iHasV (hTO : ITermOk) (hRE : IReached) (w : World) (a ae : Option Addr) (l : List Nd) (e : List Int) (c ce : Nat) (hN : Nodes w a l) (hcap : l.length ≤ c) (hT : termOk l = true) (hI : Ints w ae e) :
    Calls Tryz.prog 54 #[.slice a l.length c, .slice ae e.length ce] w fun x w' => x = .returned (.bool (decide (e.length = 8) && decide (bitsTo l l.length ≤ 12) && fitT (root l) e)) ∧ Below w.heap.size w w' := by
  have HN : Hid (Nodes w a l) := hN
  have HT : Hid (termOk l = true) := hT
  have HTO : Hid ITermOk := hTO
  have HRE : Hid IReached := hRE
  have HCAP : Hid (l.length ≤ c) := hcap
  have HI : Hid (Ints w ae e) := hI
  obtain ⟨hl1, hl2⟩ := term_len hT
  clear hN hT hTO hcap hI hRE
  obtain ⟨B, hB⟩ : ∃ B, B = (decide (e.length = 8) && decide (bitsTo l l.length ≤ 12) && fitT (root l) e) := ⟨_, rfl⟩
  rw [← hB]
  have HBV : Hid (B = (decide (e.length = 8) && decide (bitsTo l l.length ≤ 12) && fitT (root l) e)) := hB
  clear hB
  by_cases he : e.length = 8
  · have HL : Hid (e.length = 8) := he
    have HV : Hid (B = (decide (bitsTo l l.length ≤ 12) && fitT (root l) e)) := by
      show _ = _
      rw [HBV.out, decide_eq_true he, Bool.true_and]
    rw [he]
    clear he HBV
    go_enter Tryz.func54, Tryz.ntmps54
    go_wp2_with fail
    refine (iQBits HRE.out w a l c HN.out HCAP.out (by omega) HT.out).mono ?_
    rintro e0 w1 ⟨rfl, hb1⟩
    have HB1 : Hid (Below w.heap.size w w1) := hb1
    clear hb1
    by_cases hb : bitsTo l l.length ≤ 12
    · have HV2 : Hid (B = fitT (root l) e) := by
        show _ = _
        rw [HV.out, decide_eq_true hb, Bool.true_and]
      clear HV
      go_wp2_with fail
      refine (iFreeW HTO.out w1 a l c (HN.out.below HB1.out) HCAP.out HT.out).mono ?_
      rintro e0 w2 ⟨⟨r, b, rfl, hfw⟩, hb2⟩
      have HFW : Hid (FW l r b) := hfw
      have HB2 : Hid (Below w.heap.size w w2) := HB1.out.trans (hb2.mono HB1.out.size)
      have HRB : Hid (∀ v, v < 8 → r v < 2 ^ 9) := hfw.2.1
      unfold agg8
      clear hb2 hfw
      have HB3 : Hid (Below w.heap.size w (w2.alloc (.cells #[.int .u16 (r 0 : Int), .int .u16 (r 1 : Int), .int .u16 (r 2 : Int), .int .u16 (r 3 : Int), .int .u16 (r 4 : Int), .int .u16 (r 5 : Int), .int .u16 (r 6 : Int), .int .u16 (r 7 : Int)] 107))) := HB2.out.alloc HB2.out.size _
      go_wp2_with fail
      generalize w2.alloc (.cells #[.int .u16 (r 0 : Int), .int .u16 (r 1 : Int), .int .u16 (r 2 : Int), .int .u16 (r 3 : Int), .int .u16 (r 4 : Int), .int .u16 (r 5 : Int), .int .u16 (r 6 : Int), .int .u16 (r 7 : Int)] 107) = w3 at HB3 ⊢
      go_loopw [6, 23] (fun vb q wr => ∃ v : Nat, v ≤ 8 ∧ vb = .bool (upTo r e b v) ∧ q = .int .i64 (v : Int) ∧ wr = w3) (fun _ q _ => 8 - (intOf q).toNat)
      case atStart => exact ⟨0, Nat.zero_le _, rfl, rfl, rfl⟩
      case round =>
        obtain ⟨v, hv, rfl, rfl, rfl⟩ := hrel
        by_cases hv8 : v < 8
        · have hvz : (v : Int) < 8 := by omega
          have hX := fun w => idx8 r hv8 w
          have hm := HRB.out v hv8
          rcases (HI.out.below HB3.out).2 with h0 | ⟨xb, xo, rfl, hc⟩
          · have := HL.out; omega
          have q0 := hc v (by have := HL.out; omega)
          have HU : Hid (upTo r e b (v + 1) = (upTo r e b v && wordsB (r v) (e.getD v 0))) := rfl
          have hev : e[v]'(by have := HL.out; omega) = e.getD v 0 := by rw [List.getD_eq_getElem?_getD, List.getElem?_eq_getElem (by have := HL.out; omega)]; rfl
          rw [hev] at q0
          clear hev hc
          have HW : Hid (∀ w : World, Calls Tryz.prog 114 #[.int .u16 (r v : Int), .int .i64 (e.getD v 0)] w fun x w' => x = .returned (.bool (wordsB (r v) (e.getD v 0))) ∧ w' = w) := fun w => iWords (r v) (e.getD v 0) w hm
          generalize e.getD v 0 = ev at q0 HU HW
          generalize wordsB (r v) ev = wb at HU HW
          cases hu : upTo r e b v
          · have HN1 : Hid (upTo r e b (v + 1) = false) := by
              show _ = _
              rw [HU.out, hu]; rfl
            go_wp2
            go_roundw
            case rel => exact ⟨v + 1, by omega, by rw [HN1.out], by go_num, trivial⟩
            case measure => simp [intOf]; omega
          · have HN1 : Hid (upTo r e b (v + 1) = wb) := by
              show _ = _
              rw [HU.out, hu]; rfl
            go_wp2_with (go_at_call 114; refine (HW.out _).mono ?_; rintro e9 wr ⟨rfl, rfl⟩)
            go_roundw
            case rel => exact ⟨v + 1, by omega, by rw [HN1.out], by go_num, trivial⟩
            case measure => simp [intOf]; omega
        · have hvz : ¬ (v : Int) < 8 := by omega
          have e8 : v = 8 := by omega
          subst e8
          have HE : Hid (upTo r e b 8 = B) := (upTo_fit HFW.out e).trans HV2.out.symm
          go_wp2
          go_ret
          exact ⟨ret_bool HE.out, HB3.out⟩
    · have HV2 : Hid (false = B) := by
        show _ = _
        rw [HV.out, decide_eq_false hb, Bool.false_and]
      clear HV
      go_wp2
      go_ret
      exact ⟨ret_bool HV2.out, HB1.out⟩
  · have HV : Hid (false = B) := by
      show _ = _
      rw [HBV.out, decide_eq_false he, Bool.false_and, Bool.false_and]
    have hez : ((e.length : Int) != 8) = true := by simp; omega
    go_enter Tryz.func54, Tryz.ntmps54
    go_wp2
    go_ret
    exact ⟨ret_bool HV.out, Below.refl _ _⟩

end Go.Proofs.YtejgcchkhljnjaaGreat.Pv14

/- The walk of the program's Value. -/
namespace Go.Proofs.YtejgcchkhljnjaaGreat.Pv15
open Go.RowKit
open Nd0 Pl1 Tm0 Tm1 Tm2 Tm5 Tm6 Tm8 Tm11 Tr0 Rw0 Vl1 Vl2 Vm0 Vm1 Vm2 Kp1 Sv5 Vm3 Pv5 Pv7 Pv12 Pv13 Pv14 Ic4
open Lx1 (ITermOk)
open Lx2 (IReached)
open Ws1 (ret_int ret_bool)
set_option linter.unusedVariables false

set_option maxRecDepth 100000 in
set_option maxHeartbeats 1000000 in
theorem toArr (b o ce : Nat) (w : World) : (Instr.arrayAt 61 (.slice (some ⟨b, o, none⟩) 8 ce)).run Tryz.prog w = .ok (.pointer (some ⟨b, o, none⟩)) w := by
  simp [Instr.arrayAt, run_underlying Tryz.underlying61, go_sem]

theorem store_new {ops : Array Oper} {rest : List Oper} {op : Oper} {a : Act} {Q : Exit → Act → World → Prop} (w : World) (hgd : op.guard = none) (ty : TypeId) (x y : Operand) (ho : op.op = .store ty x y)
    (c c' : Array Value) (g : Nat) (hx : a.eval x = .pointer (some ⟨g, 0, none⟩)) (hg : g = w.heap.size) (hy : a.eval y = .agg c') (hi : (Tryz.prog.info? ty).map (·.size) = some c'.size) (hs : c.size = c'.size) (h1 : c'.all (·.oneCell') = true)
    (h : wpList Tryz.prog ops Q rest (a.put op.dst undef) (w.alloc (.cells c' ty))) : wpList Tryz.prog ops Q (op :: rest) a (w.alloc (.cells c ty)) :=
  wpList_plain hgd fun _ hK => wp_store_new w ty x y ho c c' g hx hg hy hi hs h1 (hK _ _ h)

set_option maxRecDepth 100000 in
set_option maxHeartbeats 8000000 in
theorem iValue (hTO : ITermOk) (hRE : IReached) (hIA : IApply) : IValue := by
  intro w a ae l e c ce hN hcap hlen hI hce
  have HN : Hid (Nodes w a l) := hN
  have HTO : Hid ITermOk := hTO
  have HRE : Hid IReached := hRE
  have HIA : Hid IApply := hIA
  have HCAP : Hid (l.length ≤ c) := hcap
  have HI : Hid (Ints w ae e) := hI
  obtain ⟨V, hV⟩ : ∃ V, V = valueL l e := ⟨_, rfl⟩
  rw [← hV]
  have HV : Hid (V = valueL l e) := hV
  clear hN hTO hcap hI hRE hIA hV
  cases hT : termOk l
  · have HVN : Hid (V = none) := by
      show _ = _
      rw [HV.out]; unfold valueL; rw [hT]; rfl
    go_enter Tryz.func16, Tryz.ntmps16
    go_wp2_with (go_at_call 44; refine (HTO.out w a l c HN.out HCAP.out hlen).mono ?_; rintro e0 w1 ⟨rfl, hb1⟩; rw [hT])
    go_ret2
    rw [HVN.out]
    exact ⟨rfl, hb1⟩
  · obtain ⟨hl1, hl2⟩ := term_len hT
    have HT : Hid (termOk l = true) := hT
    obtain ⟨F, hF⟩ : ∃ F, F = (decide (e.length = 8) && decide (bitsTo l l.length ≤ 12) && fitT (root l) e) := ⟨_, rfl⟩
    have HF : Hid (F = (decide (e.length = 8) && decide (bitsTo l l.length ≤ 12) && fitT (root l) e)) := hF
    have HVF : Hid (V = if F then some (vT (root l) e) else none) := by
      show _ = _
      rw [HV.out, hF]; unfold valueL; rw [hT, Bool.true_and]
    clear hF
    have HHV : Hid (∀ w1, Below w.heap.size w w1 → Calls Tryz.prog 54 #[.slice a l.length c, .slice ae e.length ce] w1 fun x w' => x = .returned (.bool F) ∧ Below w1.heap.size w1 w') := fun w1 hb => by
      rw [HF.out]
      exact iHasV HTO.out HRE.out w1 a ae l e c ce (HN.out.below hb) HCAP.out HT.out (HI.out.below hb)
    cases hFb : F
    · rw [hFb] at HVF HHV
      have HVN : Hid (V = none) := HVF.out
      go_enter Tryz.func16, Tryz.ntmps16
      go_wp2_with (first | (go_at_call 44; refine (HTO.out w a l c HN.out HCAP.out hlen).mono ?_; rintro e0 w1 ⟨rfl, hb1⟩; rw [hT]) | (go_at_call 54; refine (HHV.out _ hb1).mono ?_; rintro e0 w2 ⟨rfl, hb2⟩))
      go_ret2
      rw [HVN.out]
      exact ⟨rfl, hb1.trans (hb2.mono hb1.size)⟩
    · rw [hFb] at HVF HHV
      have HVS : Hid (V = some (vT (root l) e)) := HVF.out
      have hFF : (decide (e.length = 8) && decide (bitsTo l l.length ≤ 12) && fitT (root l) e) = true := by rw [← HF.out]; exact hFb
      simp only [Bool.and_eq_true] at hFF
      have he : e.length = 8 := of_decide_eq_true hFF.1.1
      have HE : Hid (e.length = 8) := he
      have HFN : Hid (FitN l (l.length - 1) e) := by
        have hf := hFF.2
        cases hn : needT (root l) with
        | none => rw [fit_none hn] at hf; cases hf
        | some q =>
          rw [fit_some hn] at hf
          exact ⟨q, hn, fit_iff.1 hf⟩
      rw [he] at HHV ⊢
      clear hFF HF HVF he hFb
      obtain ⟨zc, hzc⟩ : ∃ zc : Array Value, zc = Tryz.zeroCells65 := ⟨_, rfl⟩
      have hZ : Zc zc := by rw [hzc]; exact zc_of
      rcases HI.out.2 with h0 | ⟨xb, xo, rfl, hc⟩
      · have := HE.out; omega
      have hX := fun w => toArr xb xo ce w
      have hxl : xb < w.heap.size := lt_of_cell (hc 0 (by have := HE.out; omega))
      have HQ : Hid (∀ W : World, Below w.heap.size w W → ∀ i : Nat, i < 8 → W.cell? ⟨xb, xo + i, none⟩ = some (.int .i64 (wd e (i : Int)))) := by
        show ∀ _, _
        intro W hW i hi
        rw [hW.cell (p := ⟨xb, xo + i, none⟩) hxl, hc i (by have := HE.out; omega), wd_get (by have := HE.out; omega)]
      have hw1 : IntKind.i64.wrap ((l.length : Int) - 1) = (l.length : Int) - 1 := by rw [IntKind.wrap_i64] <;> omega
      clear hc hxl
      go_enter Tryz.func16, Tryz.ntmps16
      go_wp2_with (first | (go_at_call 44; refine (HTO.out w a l c HN.out HCAP.out hlen).mono ?_; rintro e0 w1 ⟨rfl, hb1⟩; rw [hT]; have HB1 : Hid (Below w.heap.size w w1) := hb1; clear hb1) | (go_at_call 54; refine (HHV.out _ HB1.out).mono ?_; rintro e0 w2 ⟨rfl, hb2⟩; have HB2 : Hid (Below w.heap.size w w2) := HB1.out.trans (hb2.mono HB1.out.size); have q0 := HQ.out _ HB2.out 0 (by omega); have q1 := HQ.out _ HB2.out 1 (by omega); have q2 := HQ.out _ HB2.out 2 (by omega); have q3 := HQ.out _ HB2.out 3 (by omega); have q4 := HQ.out _ HB2.out 4 (by omega); have q5 := HQ.out _ HB2.out 5 (by omega); have q6 := HQ.out _ HB2.out 6 (by omega); have q7 := HQ.out _ HB2.out 7 (by omega); rw [Nat.add_zero] at q0; clear hb2) | (rw [← hzc]; refine store_new _ rfl 65 (.tmp 6) (.tmp 20) rfl zc (scCells zc a l.length c e) _ rfl rfl rfl (by rw [sc_size hZ]; exact info_sc) (by rw [sc_size hZ]; exact hZ.size) (sc_one hZ _ _ _ _) ?_; clear hzc))
      have hBW : Below w2.heap.size w2 (w2.alloc (.cells (scCells zc a l.length c e) 65)) := (Below.refl _ _).alloc (Nat.le_refl _) _
      have hsc := (sc_new w2 hZ a l c 65 e).1
      have hcall := pVal HIA.out HT.out hl2 (l.length - 1) (by omega) _ w2.heap.size a c e _ _ ((HN.out.below HB2.out).below hBW) (fun y hy h => by
        have h2 : y.block < w.heap.size := by
          rcases HN.out.2 with h0 | ⟨yb, yo, rfl, hc⟩
          · omega
          · have e := Option.some.inj hy
            subst e
            exact (hc 0 (by omega)).lt
        have := HB2.out.size
        omega) HE.out hsc HFN.out
      have e1 : ((l.length - 1 : Nat) : Int) = (l.length : Int) - 1 := by omega
      rw [e1] at hcall
      refine hcall.mono ?_
      rintro x0 w3 ⟨rfl, _, hK3⟩
      have HR : Hid (V = some (vT (tr l (l.length - 1)) e)) := HVS.out
      have HB3 : Hid (Below w.heap.size w w3) := by
        have h1 := Kept.past (Kept.ofBelow (S := fun _ => False) (HB2.out.trans (hBW.mono HB2.out.size))) hK3 (fun b h => .inr (by have := HB2.out.size; omega))
        exact ⟨h1.os, h1.tape, h1.output, h1.size, fun b hb => h1.block b hb (fun h => h)⟩
      clear hcall hsc hBW hK3 e1
      generalize vT (tr l (l.length - 1)) e = val at HR ⊢
      go_wp2
      go_ret2
      rw [HR.out]
      exact ⟨rfl, HB3.out⟩

end Go.Proofs.YtejgcchkhljnjaaGreat.Pv15
