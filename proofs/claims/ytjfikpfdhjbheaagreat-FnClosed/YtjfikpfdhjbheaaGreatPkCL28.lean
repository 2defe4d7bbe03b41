/- Small texts of mine, one behind the other. -/
import Derived.Test.YtjfikpfdhjbheaaGreatRows
import Derived.WalkKit
import Derived.WalkSpells
import Derived.Stop.Asserts
import Derived.Deep.MidRow
import Derived.Test.YtjfikpfdhjbheaaGreatPkCL25
import Derived.Test.YtjfikpfdhjbheaaGreatSv5
import Derived.Test.YtjfikpfdhjbheaaGreatSp7
import Derived.Test.YtjfikpfdhjbheaaGreatPkCL18
import Derived.Test.YtjfikpfdhjbheaaGreatSp11
import Derived.Test.YtjfikpfdhjbheaaGreatPkCL0
import Derived.Test.YtjfikpfdhjbheaaGreatPkCL23
import Derived.Test.YtjfikpfdhjbheaaGreatPkCL20
import Derived.Test.YtjfikpfdhjbheaaGreatPkCL3
import Derived.Test.YtjfikpfdhjbheaaGreatPkCL17
/- The walk of the model's Value and Holds. -/
namespace Go.Proofs.YtjfikpfdhjbheaaGreat.Sv6
open Go.RowKit
open Nd0 Pl1 Tm0 Tm1 Tm3 Tm5 Tm6 Tm8 Tm11 Tm13 Tm14 Ap0 Ap2 Tr0 Rw0 Vl1 Vl2 Vl3 Vl5 Vm0 Kp1
open Sp10 (sQuant)
open Sp7 (sPrune)
open Sp4 (sTermOk)
open Sv4 (sAt)
open Sv5 (sFits)
open Wd1 (ret_int ret_bool)
set_option linter.unusedVariables false

theorem app_intsO {ops : Array Oper} {rest : List Oper} {o : Oper} {a : Act} {Q : Exit → Act → World → Prop} (W : World) (hgd : o.guard = none) (s x : Operand)
    (ho : o.op = .call { callee := .builtin .append, args := #[s, x], argTypes := #[30, 30] })
    (B : Nat) (v : Value) (l ys : List Int) (g d c : Nat) (hs : a.eval s = v) (hx : a.eval x = .slice (some ⟨g, d, none⟩) ys.length c)
    (hy : ∀ j (h : j < ys.length), W.cell? ⟨g, d + j, none⟩ = some (.int .i64 ys[j])) (hp : 0 < ys.length)
    (hown : Ows W B v l) (hB : B ≤ W.heap.size) (hlen : l.length + ys.length ≤ 1048577)
    (h : ∀ g cap w', Ows w' B (.slice (some ⟨g, 0, none⟩) (l.length + ys.length) cap) (l ++ ys) → Kept (fun k => v.ownBlock = some k) W w' → wpList Tryz.prog ops Q rest (a.put o.dst (.slice (some ⟨g, 0, none⟩) (l.length + ys.length) cap)) w') :
    wpList Tryz.prog ops Q (o :: rest) a W := by
  obtain ⟨i, hi, hzz⟩ := Option.map_eq_some_iff.1 infoInt
  simp only [Prod.mk.injEq] at hzz
  obtain ⟨hz, hsz, hb⟩ := hzz
  refine wpList_append_lies W hgd s x 30 ho B 3 i (.int .i64 0) 1 8 Tryz.underlying30 hi hz hsz hb rfl (by omega) v l.length (l.map fun x => .int .i64 x) hs hown
    ⟨g, d, none⟩ ys.length c (ys.map fun x => .int .i64 x) hx (by simp) ?_ ?_ hp (by unfold maxLen; omega) (by omega) hB _ rfl ?_
  · intro j u hu
    have hadd : (⟨g, d, none⟩ : Addr).add j = ⟨g, d + j, none⟩ := by unfold Addr.add; split <;> simp_all
    rw [hadd]
    rw [List.getElem?_map] at hu
    obtain ⟨y, hy1, rfl⟩ := Option.map_eq_some_iff.1 hu
    obtain ⟨hj, rfl⟩ := List.getElem?_eq_some_iff.1 hy1
    exact hy j hj
  · intro u hu
    obtain ⟨y, _, rfl⟩ := List.mem_map.1 hu
    rfl
  · intro g cap w' h1 h2 h3 h4
    refine h g cap w' ?_ ?_
    · unfold Ows
      simpa using h1
    · exact ⟨h2.os, h2.tape, h2.output, h2.size, fun k hk hn => h2.block k hk (fun e => hn e.symm)⟩

def vRes (o : Option Int) : Value := .tuple #[.int .i64 (o.getD 0), .bool o.isSome]
theorem val_none {l : List Nd} {e : List Int} (h : ¬ (termOk l = true ∧ e.length = 8 ∧ bitsTo l l.length ≤ 12 ∧ fitT (root l) e = true)) : valueL l e = none := by
  cases hv : valueL l e with
  | none => rfl
  | some x =>
    obtain ⟨h1, h2, h3, h4, _⟩ := value_parts.1 hv
    exact absurd ⟨h1, h2, h3, h4⟩ h

set_option maxRecDepth 100000 in
set_option maxHeartbeats 16000000 in
theorem sValue (w : World) (a ae : Option Addr) (l : List Nd) (e : List Int) (c ce : Nat) (hN : Nodes w a l) (hI : Ints w ae e) :
    Calls Tryz.prog 45 #[.slice a l.length c, .slice ae e.length ce] w fun x w' => x = .returned (vRes (valueL l e)) ∧ Below w.heap.size w w' := by
  have HN : Hid (Nodes w a l) := hN
  have HI : Hid (Ints w ae e) := hI
  clear hN hI
  go_enter Tryz.func45, Tryz.ntmps45
  go_wp2_with fail
  refine (sTermOk _ a l c HN.out).mono ?_
  rintro x0 w1 ⟨rfl, hb1⟩
  have HB1 : Hid (Below w.heap.size w w1) := hb1
  clear hb1
  cases hT : termOk l
  · have HV : Hid (valueL l e = none) := val_none (fun h => by rw [hT] at h; cases h.1)
    go_wp2
    go_ret2
    rw [HV.out]
    exact ⟨rfl, HB1.out⟩
  · have HT : Hid (termOk l = true) := hT
    clear hT
    by_cases h8 : e.length = 8
    · rw [h8]
      have HPR : Hid (valueL l e = valueL (pruneL l) e) := (value_prune HT.out e).symm
      have hTP := prune_term HT.out
      have hRP : ∀ j, j < (pruneL l).length → flag (reachL (pruneL l)) j = true := fun j hj => prune_reach HT.out hj
      go_wp2_with fail
      refine (sPrune _ a l c (HN.out.below HB1.out)).mono ?_
      rintro x0 w2 ⟨⟨v2, rfl, ho2⟩, hb2⟩
      obtain ⟨a2, c2, rfl, hn2⟩ := ho2.form
      have hL1 := term_len hTP
      generalize pruneL l = P at hTP hRP hn2 hL1 HPR ⊢
      have HTP : Hid (termOk P = true) := hTP
      have HRP : Hid (∀ j, j < P.length → flag (reachL P) j = true) := hRP
      have HNP : Hid (Nodes w2 a2 P) := hn2.nodes
      have HB2 : Hid (Below w.heap.size w w2) := HB1.out.trans (hb2.mono HB1.out.size)
      have HI2 : Hid (Ints w2 ae e) := HI.out.below HB2.out
      clear hTP hRP ho2 hn2 hb2
      go_wp2_with fail
      go_loop [7, 8] (fun s q => ∃ i : Nat, i ≤ P.length ∧ q = .int .i64 (i : Int) ∧ s = .int .i64 (bitsTo P i)) (fun _ q => P.length - (intOf q).toNat)
      case atStart => exact ⟨0, Nat.zero_le _, rfl, rfl⟩
      case round =>
        obtain ⟨i, hi, rfl, rfl⟩ := hrel
        by_cases hlt : i < P.length
        · have hlz : (i : Int) < (P.length : Int) := by omega
          rcases HNP.out.2 with h0 | ⟨xb, xo, rfl, hc⟩
          · omega
          have p0 := (hc i hlt).c0
          have p4 := (hc i hlt).c4
          rw [nth_get hlt] at p0 p4
          clear hc
          have HBN : Hid (bitsTo P (i + 1) = if quant (nth P i).op then bitsTo P i + (nth P i).b else bitsTo P i) := by
            show (if _ then _ else _) = _
            rw [HRP.out i hlt, Bool.true_and]
          have hbb := bits_bound HTP.out i hi
          have HQB : Hid (quant (nth P i).op = true → 1 ≤ (nth P i).b ∧ (nth P i).b ≤ 8) := fun h => quant_b (term_node HTP.out hlt) h
          generalize bitsTo P i = z at HBN hbb ⊢
          generalize nth P i = n at p0 p4 HBN HQB
          obtain ⟨hb0, hb9⟩ := hbb
          cases hqu : quant n.op
          · have HB2' : Hid (bitsTo P (i + 1) = z) := by
              show _ = _
              rw [HBN.out, hqu]; rfl
            go_wp2_with (go_at_call 38; refine (sQuant _ _).mono ?_; rintro x0 w2 ⟨rfl, rfl⟩; rw [hqu])
            go_round
            case rel => exact ⟨i + 1, by omega, by go_num, by rw [HB2'.out]⟩
            case measure => simp [intOf]; omega
          · have HB2' : Hid (bitsTo P (i + 1) = z + n.b) := by
              show _ = _
              rw [HBN.out, hqu]; rfl
            obtain ⟨hq1, hq2⟩ := HQB.out hqu
            go_wp2_with (go_at_call 38; refine (sQuant _ _).mono ?_; rintro x0 w2 ⟨rfl, rfl⟩; rw [hqu])
            go_round
            case rel => exact ⟨i + 1, by omega, by go_num, by rw [HB2'.out]⟩
            case measure => simp [intOf]; omega
        · have hlz : ¬ (i : Int) < (P.length : Int) := by omega
          have hie : i = P.length := by omega
          have HBT : Hid (bitsTo P i = bitsTo P P.length) := by
            show _ = _
            rw [hie]
          clear hie
          generalize bitsTo P i = z at HBT ⊢
          by_cases h12 : 12 < z
          · have HV : Hid (valueL l e = none) := HPR.out.trans (val_none (fun h => by have := h.2.2.1; rw [← HBT.out] at this; omega))
            go_wp2
            go_ret2
            rw [HV.out]
            exact ⟨rfl, HB2.out⟩
          · have h12z : ¬ (12 < z) := h12
            go_wp2_with fail
            refine (sFits _ a2 ae P e c2 ce HNP.out HTP.out HRP.out HI2.out h8).mono ?_
            rintro x0 w3 ⟨rfl, hb3⟩
            have HB3 : Hid (Below w.heap.size w w3) := HB2.out.trans (hb3.mono HB2.out.size)
            have HN3 : Hid (Nodes w3 a2 P) := HNP.out.below hb3
            have HI3 : Hid (Ints w3 ae e) := HI2.out.below hb3
            clear hb3
            cases hf : fitT (root P) e
            · have HV : Hid (valueL l e = none) := HPR.out.trans (val_none (fun h => by rw [hf] at h; cases h.2.2.2))
              go_wp2
              go_ret2
              rw [HV.out]
              exact ⟨rfl, HB3.out⟩
            · have HV : Hid (valueL l e = some (vT (tr P (P.length - 1)) e)) := HPR.out.trans (value_parts.2 ⟨HTP.out, h8, by rw [← HBT.out]; omega, hf, rfl⟩)
              rcases HI3.out.2 with h0 | ⟨eb, eo, rfl, hec⟩
              · omega
              have hebl : eb < w3.heap.size := lt_of_cell (hec 0 (by omega))
              have HEC : Hid (∀ j (h : j < e.length), (w3.alloc (.cells #[] 3)).cell? ⟨eb, eo + j, none⟩ = some (.int .i64 e[j])) := fun j hj => by
                rw [((Below.refl w3.heap.size w3).alloc (Nat.le_refl _) _).cell (p := ⟨eb, eo + j, none⟩) hebl]
                exact hec j hj
              have HLIT : Hid (Ows (w3.alloc (.cells #[] 3)) w3.heap.size (.slice (some ⟨w3.heap.size, 0, none⟩) 0 0) []) := Ows.lit w3 _ (Nat.le_refl _)
              have hs3 : w3.heap.size ≤ (w3.alloc (.cells #[] 3)).heap.size := by simp
              have hcast : (P.length : Int) - 1 = ((P.length - 1 : Nat) : Int) := by omega
              have HCA : Hid ((P.length : Int) - 1 = ((P.length - 1 : Nat) : Int)) := hcast
              clear hec hcast
              go_wp2_with (at_builtin; go_must (refine app_intsO _ rfl _ _ rfl w3.heap.size (.slice (some ⟨w3.heap.size, 0, none⟩) 0 0) [] e eb eo ce rfl (by rw [h8]; rfl) HEC.out (by omega) HLIT.out hs3 (by simp [h8]) ?_; intro g5 cp5 w5 ho5 hk5; rw [show ([] : List Int).length + e.length = 8 by simp [h8]] at ho5 ⊢; have HO5 : Hid (Ows w5 w3.heap.size (.slice (some ⟨g5, 0, none⟩) 8 cp5) e) := ho5; have HK5 : Hid (Below w3.heap.size w3 w5) := ((Below.refl w3.heap.size w3).alloc (Nat.le_refl _) _).trans (hk5.below (fun b hb => (HLIT.out.lt b hb).1) hs3); clear ho5 hk5))
              obtain ⟨g6, c6, hv6, hB6, hl6, hr6⟩ := Rw1.row_ints HO5.out (by omega)
              have HG5 : Hid (w3.heap.size ≤ g5 ∧ Env w5 g5 e) := by
                have e6 : g6 = g5 := by
                  have := congrArg Value.ownBlock hv6
                  simpa [Value.ownBlock] using this.symm
                rw [e6, h8] at hr6
                exact ⟨by omega, hr6⟩
              rw [HCA.out]
              refine (sAt HTP.out (P.length - 1) (by omega) _ a2 c2 g5 cp5 e (HN3.out.below HK5.out) (fun x hx => ?_) h8 HG5.out.2).mono ?_
              · rcases HN3.out.2 with h0 | ⟨xb, xo, hx2, hc⟩
                · omega
                · rw [hx] at hx2
                  have h9 := (hc 0 (by omega)).lt
                  have h10 := Option.some.inj hx2
                  rw [h10]
                  have := HG5.out.1
                  show ¬ xb = g5
                  omega
              rintro x0 w6 ⟨rfl, _, hK6⟩
              have HB6 : Hid (Below w.heap.size w w6) := (HB3.out.trans (HK5.out.mono HB3.out.size)).trans (hK6.below (fun b (eb : b = g5) => by have := HG5.out.1; have := HB3.out.size; omega) (by have := HK5.out.size; have := HB3.out.size; omega))
              clear hK6 hr6 hv6
              go_wp2
              go_ret2
              rw [HV.out]
              exact ⟨rfl, HB6.out⟩
    · have h8z : ((e.length : Int) != 8) = true := by simp; omega
      have HV : Hid (valueL l e = none) := val_none (fun h => h8 h.2.1)
      go_wp2
      go_ret2
      rw [HV.out]
      exact ⟨rfl, HB1.out⟩

end Go.Proofs.YtjfikpfdhjbheaaGreat.Sv6

/- The walk of the model's Holds. -/
namespace Go.Proofs.YtjfikpfdhjbheaaGreat.Sv7
open Go.RowKit
open Nd0 Pl1 Tm0 Tm6 Ap0 Vl1 Vl5 Sv6
open Sp11 (sSentence)
set_option linter.unusedVariables false

set_option maxHeartbeats 1000000 in
theorem sZeros (w : World) :
    Calls Tryz.prog 46 #[] w fun x w' => (∃ a c, x = .returned (.slice a 8 c) ∧ Ints w' a (List.replicate 8 0)) ∧ Below w.heap.size w w' := by
  go_enter Tryz.func46, Tryz.ntmps46
  go_wp2_with fail
  go_loopw [1, 2] (fun v q wr => ∃ i : Nat, i ≤ 8 ∧ q = .int .i64 (i : Int) ∧ Ows wr w.heap.size v (List.replicate i 0) ∧ Below w.heap.size w wr) (fun _ q _ => 8 - (intOf q).toNat)
  case atStart => exact ⟨0, Nat.zero_le _, rfl, Ows.lit w _ (Nat.le_refl _), (Below.refl _ _).alloc (Nat.le_refl _) _⟩
  case round =>
    obtain ⟨i, hi, rfl, ho, hb⟩ := hrel
    have HO : Hid (Ows wr w.heap.size u1 (List.replicate i 0)) := ho
    have HB : Hid (Below w.heap.size w wr) := hb
    have hbs : w.heap.size ≤ wr.heap.size := hb.size
    have HL : Hid ((List.replicate i (0 : Int)).length = i) := List.length_replicate
    have HS : Hid (List.replicate (i + 1) (0 : Int) = List.replicate i 0 ++ [0]) := by
      show _ = _
      rw [List.replicate_succ']
    clear ho hb
    by_cases hlt : i < 8
    · have hz : (i : Int) < 8 := by omega
      generalize List.replicate i (0 : Int) = L at HO HL HS
      go_wp2_with (at_builtin; go_must (refine app_int _ rfl _ _ rfl w.heap.size u1 L 0 rfl rfl HO.out hbs (by rw [HL.out]; omega) ?_; intro g5 cp5 w5 ho5 hk5 hg5; have HO5 : Hid (Ows w5 w.heap.size (.slice (some ⟨g5, 0, none⟩) (L.length + 1) cp5) (L ++ [0])) := ho5; have HB5 : Hid (Below w.heap.size w w5) := HB.out.trans (hk5.below (fun b hb => (HO.out.lt b hb).1) hbs); clear ho5 hk5 hg5))
      go_roundw
      case rel => exact ⟨i + 1, by omega, by go_num, by rw [HS.out]; exact HO5.out, HB5.out⟩
      case measure => simp [intOf]; omega
    · have hz : ¬ (i : Int) < 8 := by omega
      have e8 : i = 8 := by omega
      subst e8
      obtain ⟨av, cv, hv, hwi⟩ := HO.out.form
      rw [List.length_replicate] at hv
      subst hv
      have HI : Hid (Ints wr av (List.replicate 8 0)) := hwi.ints
      clear hwi HO
      go_wp2
      go_ret
      first
        | exact ⟨HI.out, HB.out⟩
        | exact ⟨⟨av, ⟨cv, rfl⟩, HI.out⟩, HB.out⟩
        | (trace_state; fail)

set_option maxRecDepth 100000 in
set_option maxHeartbeats 4000000 in
theorem sHolds (w : World) (a : Option Addr) (l : List Nd) (c : Nat) (hN : Nodes w a l) :
    Calls Tryz.prog 20 #[.slice a l.length c] w fun x w' => x = .returned (vRes (holdsL l)) ∧ Below w.heap.size w w' := by
  have HN : Hid (Nodes w a l) := hN
  clear hN
  go_enter Tryz.func20, Tryz.ntmps20
  go_wp2_with fail
  refine (sSentence _ a l c HN.out).mono ?_
  rintro x0 w1 ⟨rfl, hb1⟩
  have HB1 : Hid (Below w.heap.size w w1) := hb1
  clear hb1
  cases hS : sentB l
  · have HV : Hid (holdsL l = none) := by
      show _ = _
      unfold holdsL; rw [hS]; rfl
    go_wp2
    go_ret2
    rw [HV.out]
    exact ⟨rfl, HB1.out⟩
  · have HV : Hid (holdsL l = valueL l (List.replicate 8 0)) := by
      show _ = _
      unfold holdsL; rw [hS]; rfl
    go_wp2_with fail
    refine (sZeros _).mono ?_
    rintro x0 w2 ⟨⟨a2, c2, rfl, hi2⟩, hb2⟩
    have HI2 : Hid (Ints w2 a2 (List.replicate 8 0)) := hi2
    have HB2 : Hid (Below w.heap.size w w2) := HB1.out.trans (hb2.mono HB1.out.size)
    clear hi2 hb2
    go_wp2_with fail
    refine (sValue _ a a2 l (List.replicate 8 0) c c2 (HN.out.below HB2.out) HI2.out).mono ?_
    rintro x0 w3 ⟨rfl, hb3⟩
    have HB3 : Hid (Below w.heap.size w w3) := HB2.out.trans (hb3.mono HB2.out.size)
    clear hb3
    unfold vRes
    generalize valueL l (List.replicate 8 0) = o at HV ⊢
    go_wp2
    go_ret2
    rw [HV.out]
    exact ⟨rfl, HB3.out⟩

end Go.Proofs.YtjfikpfdhjbheaaGreat.Sv7

/- Quants as plain data, and what it is that a slice of them can be read, written, kept. Written by tools/mkflat.py. -/
namespace Go.Proofs.YtjfikpfdhjbheaaGreat.Qa0
open Go.RowKit
open Nd0
set_option linter.unusedVariables false

structure Qu where
  all : Bool
  vr : Int
  bits : Int

end Go.Proofs.YtjfikpfdhjbheaaGreat.Qa0

/- The two kinds of quantifiers of the program: values of an interface. -/
namespace Go.Proofs.YtjfikpfdhjbheaaGreat.Qi0
open Go.RowKit
open Nd0 Qa0
set_option linter.unusedVariables false

def qv (x : Qu) : Value := .iface (if x.all then 78 else 79) (.agg #[.int .i64 x.vr, .int .i64 x.bits])

set_option maxHeartbeats 1000000 in
theorem iNewQ (al : Bool) (v b : Int) (w : World) :
    Calls Tryz.prog 24 #[.bool al, .int .i64 v, .int .i64 b] w fun e w' => e = .returned (qv ⟨al, v, b⟩) ∧ w' = w := by
  cases al
  all_goals
    go_enter Tryz.func24, Tryz.ntmps24
    go_wp2
    go_ret
    exact ⟨rfl, rfl⟩

theorem qv_all (v b : Int) : qv ⟨true, v, b⟩ = .iface 78 (.agg #[.int .i64 v, .int .i64 b]) := rfl
theorem qv_some (v b : Int) : qv ⟨false, v, b⟩ = .iface 79 (.agg #[.int .i64 v, .int .i64 b]) := rfl

theorem asksNo (v b : Int) (w : World) : (Instr.typeAssert (.iface 79 (.agg #[.int .i64 v, .int .i64 b])) 47 78 true).run Tryz.prog w = .ok (.tuple #[.agg #[.int .i64 0, .int .i64 0], .bool false]) w := by kernel_rfl
theorem asksYes (v b : Int) (w : World) : (Instr.typeAssert (.iface 78 (.agg #[.int .i64 v, .int .i64 b])) 47 78 true).run Tryz.prog w = .ok (.tuple #[.agg #[.int .i64 v, .int .i64 b], .bool true]) w := by kernel_rfl

set_option maxRecDepth 100000 in
set_option maxHeartbeats 1000000 in
theorem iOpOf (x : Qu) (w : World) :
    Calls Tryz.prog 51 #[qv x] w fun e w' => e = .returned (.int .i64 (if x.all then 19 else 20)) ∧ w' = w := by
  obtain ⟨al, v, b⟩ := x
  cases al
  · have hm := asksNo v b
    rw [qv_some]
    go_enter Tryz.func51, Tryz.ntmps51
    go_wp2
    go_ret
    exact ⟨rfl, rfl⟩
  · have hm := asksYes v b
    rw [qv_all]
    go_enter Tryz.func51, Tryz.ntmps51
    go_wp2
    go_ret
    exact ⟨rfl, rfl⟩

theorem findAll (v b : Int) (w : World) : (method 276 78 (.agg #[.int .i64 v, .int .i64 b]) "loop.example/g00116/impl.variable").run Tryz.prog w = .ok (192, .agg #[.int .i64 v, .int .i64 b]) w := by kernel_rfl
theorem findSome (v b : Int) (w : World) : (method 276 79 (.agg #[.int .i64 v, .int .i64 b]) "loop.example/g00116/impl.variable").run Tryz.prog w = .ok (195, .agg #[.int .i64 v, .int .i64 b]) w := by kernel_rfl

set_option maxRecDepth 100000 in
set_option maxHeartbeats 1000000 in
theorem iVarAll (v b : Int) (w : World) : Calls Tryz.prog 192 #[.agg #[.int .i64 v, .int .i64 b]] w fun e w' => e = .returned (.tuple #[.int .i64 v, .int .i64 b]) ∧ Below w.heap.size w w' := by
  go_enter Tryz.func192, Tryz.ntmps192
  go_wp2_with fail
  go_quiet (fail)
  go_wp2
  go_ret2
  exact ⟨rfl, Kp0.below_drewN ((Below.refl _ _).alloc (Nat.le_refl _) _) _⟩
set_option maxRecDepth 100000 in
set_option maxHeartbeats 1000000 in
theorem iVarSome (v b : Int) (w : World) : Calls Tryz.prog 195 #[.agg #[.int .i64 v, .int .i64 b]] w fun e w' => e = .returned (.tuple #[.int .i64 v, .int .i64 b]) ∧ Below w.heap.size w w' := by
  go_enter Tryz.func195, Tryz.ntmps195
  go_wp2_with fail
  go_quiet (fail)
  go_wp2
  go_ret2
  exact ⟨rfl, Kp0.below_drewN ((Below.refl _ _).alloc (Nat.le_refl _) _) _⟩

set_option maxRecDepth 100000 in
set_option maxHeartbeats 1000000 in
theorem results_node {w : World} {g : Nat} {n : Nd} {tmps : Array Value} (hp : tmps.getD 4 undef = .pointer (some ⟨g, 0, none⟩)) (h : NodeAt w g 0 n) :
    (results Tryz.f23 tmps).run Tryz.prog w = .ok (.agg #[.int .i64 n.op, .int .i64 n.w, .int .i64 n.k, .int .i64 n.a, .int .i64 n.b, .int .i64 n.c]) w := by
  have hr : w.rangeAt g 0 [.int .i64 n.op, .int .i64 n.w, .int .i64 n.k, .int .i64 n.a, .int .i64 n.b, .int .i64 n.c] := fun j v hv => by
    rw [Nat.zero_add]
    have hj : j < 6 := by
      have := (List.getElem?_eq_some_iff.1 hv).1
      simpa using this
    rcases (show j = 0 ∨ j = 1 ∨ j = 2 ∨ j = 3 ∨ j = 4 ∨ j = 5 by omega) with h' | h' | h' | h' | h' | h' <;> subst h'
    · rw [← hv]; exact h.c0
    · rw [← hv]; exact h.c1
    · rw [← hv]; exact h.c2
    · rw [← hv]; exact h.c3
    · rw [← hv]; exact h.c4
    · rw [← hv]; exact h.c5
  have hl := run_loadVar_mid (P := Tryz.prog) w g 0 42 _ _ hr Tryz.underlying42 rfl rfl
  have hp' : tmps[4]?.getD undef = .pointer (some ⟨g, 0, none⟩) := by simpa using hp
  simp [results, hp', asAddr, hl]

set_option maxRecDepth 100000 in
set_option maxHeartbeats 2000000 in
theorem iNodeOf (x : Qu) (p : Int) (w : World) :
    Calls Tryz.prog 23 #[qv x, .int .i64 p] w fun e w' => e = .returned (.agg #[.int .i64 (if x.all then 19 else 20), .int .i64 1, .int .i64 x.vr, .int .i64 p, .int .i64 x.bits, .int .i64 0]) ∧ Below w.heap.size w w' := by
  obtain ⟨al, v, b⟩ := x
  obtain ⟨W, hW⟩ : ∃ W : World, W = w.alloc (.cells #[.int .i64 0, .int .i64 0, .int .i64 0, .int .i64 0, .int .i64 0, .int .i64 0] 42) := ⟨_, rfl⟩
  obtain ⟨g, hg⟩ : ∃ g : Nat, g = w.heap.size := ⟨_, rfl⟩
  have HBW : Hid (Below w.heap.size w W) := by rw [hW]; exact (Below.refl _ _).alloc (Nat.le_refl _) _
  have HNA : Hid (NodeAt W g 0 ⟨0, 0, 0, 0, 0, 0⟩ ∧ (∀ j, W.frozen? ⟨g, j, none⟩ = false) ∧ g < W.heap.size) := by
    rw [hW, hg]
    exact ⟨⟨by rw [World.cell?_alloc_new]; rfl, by rw [World.cell?_alloc_new]; rfl, by rw [World.cell?_alloc_new]; rfl, by rw [World.cell?_alloc_new]; rfl, by rw [World.cell?_alloc_new]; rfl, by rw [World.cell?_alloc_new]; rfl⟩, fun j => by simp, by simp⟩
  have HEND : Hid (∀ (w1 : World) (n : Nd), Below W.heap.size W w1 → Below w.heap.size w (setNode w1 g 0 n)) := fun w1 n h => by
    have h1 := setNode_keptS (S := fun b => b = g) (b := g) (p := 0) (n := n) rfl (Kept.ofBelow h)
    exact HBW.out.trans (h1.below (fun b hb => by have hb' : b = g := hb; omega) HBW.out.size)
  cases al
  · have HO : Hid (∀ w, Calls Tryz.prog 51 #[.iface 79 (.agg #[.int .i64 v, .int .i64 b])] w fun e w' => e = .returned (.int .i64 20) ∧ w' = w) := fun w => iOpOf ⟨false, v, b⟩ w
    have hm := findSome v b
    rw [qv_some]
    go_enter Tryz.func23, Tryz.ntmps23
    go_wp2_with fail
    rw [← hW]
    refine (iVarSome v b W).mono ?_
    rintro e w1 ⟨rfl, hb1⟩
    have HB1 : Hid (Below W.heap.size W w1) := hb1
    have hgw : g < w1.heap.size := Nat.lt_of_lt_of_le HNA.out.2.2 hb1.size
    have HNX : Hid (NodeAt w1 g 0 ⟨0, 0, 0, 0, 0, 0⟩) := HNA.out.1.below hb1 HNA.out.2.2
    obtain ⟨q0, q1, q2, q3, q4, q5⟩ := HNX.out
    simp only [Nat.zero_add] at q1 q2 q3 q4 q5
    have hf : ∀ j, w1.frozen? ⟨g, j, none⟩ = false := fun j => by rw [hb1.frozen HNA.out.2.2]; exact HNA.out.2.1 j
    have f0 := hf 0
    have f1 := hf 1
    have f2 := hf 2
    have f3 := hf 3
    have f4 := hf 4
    have f5 := hf 5
    rw [← hg]
    clear hb1 hW hm hf hg
    go_wp2_with (go_at_call 51; refine (HO.out _).mono ?_; rintro e w' ⟨rfl, hw'⟩; have hw'' := hw'.symm; clear hw'; subst hw'')
    have HNN := setNode_same (n := ⟨20, 1, v, p, b, 0⟩) HNX.out
    refine bodyPost_ret (v := .agg #[.int .i64 20, .int .i64 1, .int .i64 v, .int .i64 p, .int .i64 b, .int .i64 0]) (results_node rfl HNN) rfl ⟨rfl, HEND.out _ ⟨20, 1, v, p, b, 0⟩ HB1.out⟩
  · have HO : Hid (∀ w, Calls Tryz.prog 51 #[.iface 78 (.agg #[.int .i64 v, .int .i64 b])] w fun e w' => e = .returned (.int .i64 19) ∧ w' = w) := fun w => iOpOf ⟨true, v, b⟩ w
    have hm := findAll v b
    rw [qv_all]
    go_enter Tryz.func23, Tryz.ntmps23
    go_wp2_with fail
    rw [← hW]
    refine (iVarAll v b W).mono ?_
    rintro e w1 ⟨rfl, hb1⟩
    have HB1 : Hid (Below W.heap.size W w1) := hb1
    have hgw : g < w1.heap.size := Nat.lt_of_lt_of_le HNA.out.2.2 hb1.size
    have HNX : Hid (NodeAt w1 g 0 ⟨0, 0, 0, 0, 0, 0⟩) := HNA.out.1.below hb1 HNA.out.2.2
    obtain ⟨q0, q1, q2, q3, q4, q5⟩ := HNX.out
    simp only [Nat.zero_add] at q1 q2 q3 q4 q5
    have hf : ∀ j, w1.frozen? ⟨g, j, none⟩ = false := fun j => by rw [hb1.frozen HNA.out.2.2]; exact HNA.out.2.1 j
    have f0 := hf 0
    have f1 := hf 1
    have f2 := hf 2
    have f3 := hf 3
    have f4 := hf 4
    have f5 := hf 5
    rw [← hg]
    clear hb1 hW hm hf hg
    go_wp2_with (go_at_call 51; refine (HO.out _).mono ?_; rintro e w' ⟨rfl, hw'⟩; have hw'' := hw'.symm; clear hw'; subst hw'')
    have HNN := setNode_same (n := ⟨19, 1, v, p, b, 0⟩) HNX.out
    refine bodyPost_ret (v := .agg #[.int .i64 19, .int .i64 1, .int .i64 v, .int .i64 p, .int .i64 b, .int .i64 0]) (results_node rfl HNN) rfl ⟨rfl, HEND.out _ ⟨19, 1, v, p, b, 0⟩ HB1.out⟩

end Go.Proofs.YtjfikpfdhjbheaaGreat.Qi0

/- What the program puts behind a term: behind, Deny, Quantify. -/
namespace Go.Proofs.YtjfikpfdhjbheaaGreat.Pb3
open Go.RowKit
open Nd0 Nd3 Tm0 Aq0 Ap13
open Ap2 (Own)
open Qa0 Qi0
open Lx1 (ITermOk)
set_option linter.unusedVariables false

theorem iTO (hTO : ITermOk) (w : World) (a : Option Addr) (l : List Nd) (c : Nat) (hN : Nodes w a l) (hcap : l.length ≤ c) :
    Calls Tryz.prog 21 #[.slice a l.length c] w fun e w' => e = .returned (.bool (termOk l)) ∧ Below w.heap.size w w' := by
  by_cases h : l.length ≤ 80
  · exact hTO w a l c hN hcap (by omega)
  · have HE : Hid (termOk l = false) := term_long (by omega)
    have hm := hN.1
    unfold maxLen at hm
    have g1 : ¬ (l.length : Int) < 1 := by omega
    have g2 : (80 : Int) < (l.length : Int) := by omega
    clear hN hcap
    go_enter Tryz.func21, Tryz.ntmps21
    go_wp2
    go_ret
    rw [HE.out]
    exact ⟨rfl, Below.refl _ _⟩

def moreL (L : List Nd) : List Nd := if termOk L then L else []

theorem nodeAt_kept {w w' : World} {b p : Nat} {n : Nd} (h : NodeAt w b p n) {S : Nat → Prop} (k : Kept S w w') (hs : ¬ S b) : NodeAt w' b p n := by
  have hb := h.lt
  obtain ⟨c0, c1, c2, c3, c4, c5⟩ := h
  exact ⟨by rw [k.cell hb hs]; exact c0, by rw [k.cell hb hs]; exact c1, by rw [k.cell hb hs]; exact c2, by rw [k.cell hb hs]; exact c3, by rw [k.cell hb hs]; exact c4, by rw [k.cell hb hs]; exact c5⟩
theorem wnodes_below {w w' : World} {B : Nat} {a : Option Addr} {l : List Nd} (h : WNodes w B a l) (k : Below w.heap.size w w') : WNodes w' B a l := by
  refine ⟨h.1, ?_⟩
  rcases h.2 with h0 | ⟨b, o, rfl, hB, hc, hf⟩
  · exact .inl h0
  · refine .inr ⟨b, o, rfl, hB, fun i hi => (hc i hi).below k (hc i hi).lt, fun j hj => ?_⟩
    have hb : b < w.heap.size := (hc 0 (by omega)).lt
    rw [(Kept.ofBelow (S := fun _ => False) k).frozen (p := ⟨b, o + j, none⟩) hb (fun e => e)]
    exact hf j hj

set_option maxRecDepth 100000 in
set_option maxHeartbeats 2000000 in
theorem iBehind (hTO : ITermOk) (w : World) (b o b2 o2 : Nat) (l ys L : List Nd) (hL : l ++ ys = L) (c c2 m : Nat) (hm : m = ys.length) (hN : Nodes w (some ⟨b, o, none⟩) l) (hY : ∀ i (h : i < ys.length), NodeAt w b2 (o2 + i * 6) ys[i]) (hlen : l.length + ys.length ≤ 1048577) :
    Calls Tryz.prog 25 #[.slice (some ⟨b, o, none⟩) l.length c, .slice (some ⟨b2, o2, none⟩) m c2] w fun e w' => (∃ a' c', e = .returned (.tuple #[.slice a' (moreL L).length c', .bool (termOk L)]) ∧ WNodes w' w.heap.size a' (moreL L) ∧ (moreL L).length ≤ c') ∧ Below w.heap.size w w' := by
  have HTO : Hid ITermOk := hTO
  have HLL : Hid (l ++ ys = L) := hL
  have HN : Hid (∀ i (h : i < l.length), NodeAt w b (o + i * 6) l[i]) := fun i hi => by
    rcases hN.2 with h0 | ⟨b', o', he, hc⟩
    · omega
    · cases he; exact hc i hi
  have HY : Hid (∀ i (h : i < ys.length), NodeAt w b2 (o2 + i * 6) ys[i]) := hY
  have HM : Hid (m = ys.length) := hm
  have HL : Hid (Own (w.alloc (.cells #[] 42)) w.heap.size (.slice (some ⟨w.heap.size, 0, none⟩) ([] : List Nd).length 0) []) := Ap2.Own.lit w _ (Nat.le_refl _)
  have HBA : Hid (Below w.heap.size w (w.alloc (.cells #[] 42))) := (Below.refl _ _).alloc (Nat.le_refl _) _
  clear hN hY hTO hm hL
  obtain ⟨W0, hW0⟩ : ∃ W0 : World, W0 = w.alloc (.cells #[] 42) := ⟨_, rfl⟩
  have hsz : w.heap.size ≤ W0.heap.size := by rw [hW0]; simp
  rw [← hW0] at HL HBA
  have HNW : Hid (∀ i (h : i < l.length), NodeAt W0 b (o + i * 6) l[i]) := fun i hi => (HN.out i hi).below HBA.out (HN.out i hi).lt
  go_enter Tryz.func25, Tryz.ntmps25
  go_wp2_with (at_builtin; go_must (first
    | (rw [← hW0]; refine app_any W0 rfl _ _ rfl w.heap.size w.heap.size 0 [] l l rfl b o c 0 l.length rfl rfl rfl rfl HNW.out HL.out hsz (by simp; omega) ?_; intro g1 cp1 w1 ho1 hk1; have HYW : Hid (∀ i (h : i < ys.length), NodeAt w1 b2 (o2 + i * 6) ys[i]) := (fun i hi => by have hlt := (HY.out i hi).lt; exact nodeAt_kept ((HY.out i hi).below HBA.out hlt) hk1 (fun e => by omega)); have HB1 : Hid (Below w.heap.size w w1) := HBA.out.trans (hk1.below (fun k hk => by omega) hsz); have hs1 : w.heap.size ≤ w1.heap.size := HB1.out.size; have HO1 : Hid (Own w1 w.heap.size (.slice (some ⟨g1, 0, none⟩) l.length cp1) l) := ho1; clear hsz hW0 ho1 hk1)
    | (refine app_any w1 rfl _ _ rfl w.heap.size g1 cp1 l ys L HLL.out b2 o2 c2 l.length m rfl rfl rfl HM.out HYW.out HO1.out hs1 hlen ?_; intro g2 cp2 w2 ho2 hk2; have HB2 : Hid (Below w.heap.size w w2) := HB1.out.trans (hk2.below (fun k hk => by have := HO1.out.lt g1 rfl; omega) hs1); have HO2 : Hid (Own w2 w.heap.size (.slice (some ⟨g2, 0, none⟩) L.length cp2) L) := ho2; clear ho2 hk2 hs1)))
  have hcp := (Ap7.own_cap HO2.out).2
  obtain ⟨av, cv, hv, hwn⟩ := HO2.out.form
  obtain ⟨rfl, rfl⟩ : av = some ⟨g2, 0, none⟩ ∧ cv = cp2 := by cases hv; exact ⟨rfl, rfl⟩
  have HW2 : Hid (WNodes w2 w.heap.size (some ⟨g2, 0, none⟩) L) := hwn
  have HML : Hid (moreL L = if termOk L then L else []) := rfl
  clear hv hwn HL HBA HNW HO1 HYW HB1 HN HY hlen
  refine (iTO HTO.out _ (some ⟨g2, 0, none⟩) L cv HW2.out.nodes hcp).mono ?_
  rintro e w3 ⟨rfl, hb3⟩
  have HB3 : Hid (Below w.heap.size w w3) := HB2.out.trans (hb3.mono HB2.out.size)
  have HW3 : Hid (WNodes w3 w.heap.size (some ⟨g2, 0, none⟩) L) := wnodes_below HW2.out hb3
  have HCP : Hid (L.length ≤ cv) := hcp
  clear hb3 HW2 hcp HO2
  cases hT : termOk L
  · rw [hT] at HML
    have HTT : Hid (termOk L = false) := hT
    go_wp2
    go_ret2
    rw [HTT.out, HML.out]
    exact ⟨⟨_, _, rfl, ⟨Nat.zero_le _, .inl rfl⟩, Nat.zero_le _⟩, HB3.out.alloc HB3.out.size _⟩
  · rw [hT] at HML
    have HTT : Hid (termOk L = true) := hT
    go_wp2
    go_ret2
    rw [HTT.out, HML.out]
    exact ⟨⟨_, _, rfl, HW3.out, HCP.out⟩, HB3.out⟩

end Go.Proofs.YtjfikpfdhjbheaaGreat.Pb3
