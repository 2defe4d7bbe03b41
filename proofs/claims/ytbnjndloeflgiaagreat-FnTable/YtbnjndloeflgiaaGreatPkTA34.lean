/- Small texts of mine, one behind the other. -/
import Derived.Laws.IdiomCopy
import Derived.Test.YtbnjndloeflgiaaGreatPkTA32
import Derived.Test.YtbnjndloeflgiaaGreatSv5
import Derived.Test.YtbnjndloeflgiaaGreatSp7
import Derived.Test.YtbnjndloeflgiaaGreatPkTA23
import Derived.Test.YtbnjndloeflgiaaGreatPkTA28
import Derived.Test.YtbnjndloeflgiaaGreatPkTA20
import Derived.Test.YtbnjndloeflgiaaGreatPkTA27
import Derived.Test.YtbnjndloeflgiaaGreatPkTA33
/- The walk of the model's Value and Holds. -/
namespace Go.Proofs.YtbnjndloeflgiaaGreat.Sv6
open Go.RowKit
open Nd0 Pl1 Tm0 Tm1 Tm3 Tm5 Tm6 Tm8 Tm11 Tm13 Tm14 Ap0 Ap2 Tr0 Rw0 Vl1 Vl2 Vl3 Vl5 Vm0 Kp1
open Sp10 (sQuant)
open Sp7 (sPrune)
open Sp4 (sTermOk)
open Sv4 (sAt)
open Sv5 (sFits)
open Wd1 (ret_int ret_bool)
set_option linter.unusedVariables false

theorem app_intsO {ops : Array Oper} {rest : List Oper} {o : Oper} {a : Act} {Q : Exit → Act → World → Prop} (W : World) (hgd : o.guard = none) (s x : Operand)
    (ho : o.op = .call { callee := .builtin .append, args := #[s, x], argTypes := #[35, 35] })
    (B : Nat) (v : Value) (l ys : List Int) (g d c : Nat) (hs : a.eval s = v) (hx : a.eval x = .slice (some ⟨g, d, none⟩) ys.length c)
    (hy : ∀ j (h : j < ys.length), W.cell? ⟨g, d + j, none⟩ = some (.int .i64 ys[j])) (hp : 0 < ys.length)
    (hown : Ows W B v l) (hB : B ≤ W.heap.size) (hlen : l.length + ys.length ≤ 1048577)
    (h : ∀ g cap w', Ows w' B (.slice (some ⟨g, 0, none⟩) (l.length + ys.length) cap) (l ++ ys) → Kept (fun k => v.ownBlock = some k) W w' → wpList Tryz.prog ops Q rest (a.put o.dst (.slice (some ⟨g, 0, none⟩) (l.length + ys.length) cap)) w') :
    wpList Tryz.prog ops Q (o :: rest) a W := by
  obtain ⟨i, hi, hzz⟩ := Option.map_eq_some_iff.1 infoInt
  simp only [Prod.mk.injEq] at hzz
  obtain ⟨hz, hsz, hb⟩ := hzz
  refine wpList_append_lies W hgd s x 35 ho B 3 i (.int .i64 0) 1 8 Tryz.underlying35 hi hz hsz hb rfl (by omega) v l.length (l.map fun x => .int .i64 x) hs hown
    ⟨g, d, none⟩ ys.length c (ys.map fun x => .int .i64 x) hx (by simp) ?_ ?_ hp (by unfold maxLen; omega) (by omega) hB _ rfl ?_
  · intro j u hu
    have hadd : (⟨g, d, none⟩ : Addr).add j = ⟨g, d + j, none⟩ := by unfold Addr.add; split <;> simp_all
    rw [hadd]
    rw [List.getElem?_map] at hu
    obtain ⟨y, hy1, rfl⟩ := Option.map_eq_some_iff.1 hu
    obtain ⟨hj, rfl⟩ := List.getElem?_eq_some_iff.1 hy1
    exact hy j hj
  · intro u hu
    obtain ⟨y, _, rfl⟩ := List.mem_map.1 hu
    rfl
  · intro g cap w' h1 h2 h3 h4
    refine h g cap w' ?_ ?_
    · unfold Ows
      simpa using h1
    · exact ⟨h2.os, h2.tape, h2.output, h2.size, fun k hk hn => h2.block k hk (fun e => hn e.symm)⟩

def vRes (o : Option Int) : Value := .tuple #[.int .i64 (o.getD 0), .bool o.isSome]
theorem val_none {l : List Nd} {e : List Int} (h : ¬ (termOk l = true ∧ e.length = 8 ∧ bitsTo l l.length ≤ 12 ∧ fitT (root l) e = true)) : valueL l e = none := by
  cases hv : valueL l e with
  | none => rfl
  | some x =>
    obtain ⟨h1, h2, h3, h4, _⟩ := value_parts.1 hv
    exact absurd ⟨h1, h2, h3, h4⟩ h

set_option maxRecDepth 100000 in
set_option maxHeartbeats 16000000 in
theorem sValue (w : World) (a ae : Option Addr) (l : List Nd) (e : List Int) (c ce : Nat) (hN : Nodes w a l) (hI : Ints w ae e) :
    Calls Tryz.prog 12 #[.slice a l.length c, .slice ae e.length ce] w fun x w' => x = .returned (vRes (valueL l e)) ∧ Below w.heap.size w w' := by
  have HN : Hid (Nodes w a l) := hN
  have HI : Hid (Ints w ae e) := hI
  clear hN hI
  go_enter Tryz.func12, Tryz.ntmps12
  go_wp2_with fail
  refine (sTermOk _ a l c HN.out).mono ?_
  rintro x0 w1 ⟨rfl, hb1⟩
  have HB1 : Hid (Below w.heap.size w w1) := hb1
  clear hb1
  cases hT : termOk l
  · have HV : Hid (valueL l e = none) := val_none (fun h => by rw [hT] at h; cases h.1)
    go_wp2
    go_ret2
    rw [HV.out]
    exact ⟨rfl, HB1.out⟩
  · have HT : Hid (termOk l = true) := hT
    clear hT
    by_cases h8 : e.length = 8
    · rw [h8]
      have HPR : Hid (valueL l e = valueL (pruneL l) e) := (value_prune HT.out e).symm
      have hTP := prune_term HT.out
      have hRP : ∀ j, j < (pruneL l).length → flag (reachL (pruneL l)) j = true := fun j hj => prune_reach HT.out hj
      go_wp2_with fail
      refine (sPrune _ a l c (HN.out.below HB1.out)).mono ?_
      rintro x0 w2 ⟨⟨v2, rfl, ho2⟩, hb2⟩
      obtain ⟨a2, c2, rfl, hn2⟩ := ho2.form
      have hL1 := term_len hTP
      generalize pruneL l = P at hTP hRP hn2 hL1 HPR ⊢
      have HTP : Hid (termOk P = true) := hTP
      have HRP : Hid (∀ j, j < P.length → flag (reachL P) j = true) := hRP
      have HNP : Hid (Nodes w2 a2 P) := hn2.nodes
      have HB2 : Hid (Below w.heap.size w w2) := HB1.out.trans (hb2.mono HB1.out.size)
      have HI2 : Hid (Ints w2 ae e) := HI.out.below HB2.out
      clear hTP hRP ho2 hn2 hb2
      go_wp2_with fail
      go_loop [7, 8] (fun s q => ∃ i : Nat, i ≤ P.length ∧ q = .int .i64 (i : Int) ∧ s = .int .i64 (bitsTo P i)) (fun _ q => P.length - (intOf q).toNat)
      case atStart => exact ⟨0, Nat.zero_le _, rfl, rfl⟩
      case round =>
        obtain ⟨i, hi, rfl, rfl⟩ := hrel
        by_cases hlt : i < P.length
        · have hlz : (i : Int) < (P.length : Int) := by omega
          rcases HNP.out.2 with h0 | ⟨xb, xo, rfl, hc⟩
          · omega
          have p0 := (hc i hlt).c0
          have p4 := (hc i hlt).c4
          rw [nth_get hlt] at p0 p4
          clear hc
          have HBN : Hid (bitsTo P (i + 1) = if quant (nth P i).op then bitsTo P i + (nth P i).b else bitsTo P i) := by
            show (if _ then _ else _) = _
            rw [HRP.out i hlt, Bool.true_and]
          have hbb := bits_bound HTP.out i hi
          have HQB : Hid (quant (nth P i).op = true → 1 ≤ (nth P i).b ∧ (nth P i).b ≤ 8) := fun h => quant_b (term_node HTP.out hlt) h
          generalize bitsTo P i = z at HBN hbb ⊢
          generalize nth P i = n at p0 p4 HBN HQB
          obtain ⟨hb0, hb9⟩ := hbb
          cases hqu : quant n.op
          · have HB2' : Hid (bitsTo P (i + 1) = z) := by
              show _ = _
              rw [HBN.out, hqu]; rfl
            go_wp2_with (go_at_call 37; refine (sQuant _ _).mono ?_; rintro x0 w2 ⟨rfl, rfl⟩; rw [hqu])
            go_round
            case rel => exact ⟨i + 1, by omega, by go_num, by rw [HB2'.out]⟩
            case measure => simp [intOf]; omega
          · have HB2' : Hid (bitsTo P (i + 1) = z + n.b) := by
              show _ = _
              rw [HBN.out, hqu]; rfl
            obtain ⟨hq1, hq2⟩ := HQB.out hqu
            go_wp2_with (go_at_call 37; refine (sQuant _ _).mono ?_; rintro x0 w2 ⟨rfl, rfl⟩; rw [hqu])
            go_round
            case rel => exact ⟨i + 1, by omega, by go_num, by rw [HB2'.out]⟩
            case measure => simp [intOf]; omega
        · have hlz : ¬ (i : Int) < (P.length : Int) := by omega
          have hie : i = P.length := by omega
          have HBT : Hid (bitsTo P i = bitsTo P P.length) := by
            show _ = _
            rw [hie]
          clear hie
          generalize bitsTo P i = z at HBT ⊢
          by_cases h12 : 12 < z
          · have HV : Hid (valueL l e = none) := HPR.out.trans (val_none (fun h => by have := h.2.2.1; rw [← HBT.out] at this; omega))
            go_wp2
            go_ret2
            rw [HV.out]
            exact ⟨rfl, HB2.out⟩
          · have h12z : ¬ (12 < z) := h12
            go_wp2_with fail
            refine (sFits _ a2 ae P e c2 ce HNP.out HTP.out HRP.out HI2.out h8).mono ?_
            rintro x0 w3 ⟨rfl, hb3⟩
            have HB3 : Hid (Below w.heap.size w w3) := HB2.out.trans (hb3.mono HB2.out.size)
            have HN3 : Hid (Nodes w3 a2 P) := HNP.out.below hb3
            have HI3 : Hid (Ints w3 ae e) := HI2.out.below hb3
            clear hb3
            cases hf : fitT (root P) e
            · have HV : Hid (valueL l e = none) := HPR.out.trans (val_none (fun h => by rw [hf] at h; cases h.2.2.2))
              go_wp2
              go_ret2
              rw [HV.out]
              exact ⟨rfl, HB3.out⟩
            · have HV : Hid (valueL l e = some (vT (tr P (P.length - 1)) e)) := HPR.out.trans (value_parts.2 ⟨HTP.out, h8, by rw [← HBT.out]; omega, hf, rfl⟩)
              rcases HI3.out.2 with h0 | ⟨eb, eo, rfl, hec⟩
              · omega
              have hebl : eb < w3.heap.size := lt_of_cell (hec 0 (by omega))
              have HEC : Hid (∀ j (h : j < e.length), (w3.alloc (.cells #[] 3)).cell? ⟨eb, eo + j, none⟩ = some (.int .i64 e[j])) := fun j hj => by
                rw [((Below.refl w3.heap.size w3).alloc (Nat.le_refl _) _).cell (p := ⟨eb, eo + j, none⟩) hebl]
                exact hec j hj
              have HLIT : Hid (Ows (w3.alloc (.cells #[] 3)) w3.heap.size (.slice (some ⟨w3.heap.size, 0, none⟩) 0 0) []) := Ows.lit w3 _ (Nat.le_refl _)
              have hs3 : w3.heap.size ≤ (w3.alloc (.cells #[] 3)).heap.size := by simp
              have hcast : (P.length : Int) - 1 = ((P.length - 1 : Nat) : Int) := by omega
              have HCA : Hid ((P.length : Int) - 1 = ((P.length - 1 : Nat) : Int)) := hcast
              clear hec hcast
              go_wp2_with (at_builtin; go_must (refine app_intsO _ rfl _ _ rfl w3.heap.size (.slice (some ⟨w3.heap.size, 0, none⟩) 0 0) [] e eb eo ce rfl (by rw [h8]; rfl) HEC.out (by omega) HLIT.out hs3 (by simp [h8]) ?_; intro g5 cp5 w5 ho5 hk5; rw [show ([] : List Int).length + e.length = 8 by simp [h8]] at ho5 ⊢; have HO5 : Hid (Ows w5 w3.heap.size (.slice (some ⟨g5, 0, none⟩) 8 cp5) e) := ho5; have HK5 : Hid (Below w3.heap.size w3 w5) := ((Below.refl w3.heap.size w3).alloc (Nat.le_refl _) _).trans (hk5.below (fun b hb => (HLIT.out.lt b hb).1) hs3); clear ho5 hk5))
              obtain ⟨g6, c6, hv6, hB6, hl6, hr6⟩ := Rw1.row_ints HO5.out (by omega)
              have HG5 : Hid (w3.heap.size ≤ g5 ∧ Env w5 g5 e) := by
                have e6 : g6 = g5 := by
                  have := congrArg Value.ownBlock hv6
                  simpa [Value.ownBlock] using this.symm
                rw [e6, h8] at hr6
                exact ⟨by omega, hr6⟩
              rw [HCA.out]
              refine (sAt HTP.out (P.length - 1) (by omega) _ a2 c2 g5 cp5 e (HN3.out.below HK5.out) (fun x hx => ?_) h8 HG5.out.2).mono ?_
              · rcases HN3.out.2 with h0 | ⟨xb, xo, hx2, hc⟩
                · omega
                · rw [hx] at hx2
                  have h9 := (hc 0 (by omega)).lt
                  have h10 := Option.some.inj hx2
                  rw [h10]
                  have := HG5.out.1
                  show ¬ xb = g5
                  omega
              rintro x0 w6 ⟨rfl, _, hK6⟩
              have HB6 : Hid (Below w.heap.size w w6) := (HB3.out.trans (HK5.out.mono HB3.out.size)).trans (hK6.below (fun b (eb : b = g5) => by have := HG5.out.1; have := HB3.out.size; omega) (by have := HK5.out.size; have := HB3.out.size; omega))
              clear hK6 hr6 hv6
              go_wp2
              go_ret2
              rw [HV.out]
              exact ⟨rfl, HB6.out⟩
    · have h8z : ((e.length : Int) != 8) = true := by simp; omega
      have HV : Hid (valueL l e = none) := val_none (fun h => h8 h.2.1)
      go_wp2
      go_ret2
      rw [HV.out]
      exact ⟨rfl, HB1.out⟩

end Go.Proofs.YtbnjndloeflgiaaGreat.Sv6

/- Packed tables: how many bits are set; the bits in use; whether it needs a bit. -/
namespace Go.Proofs.YtbnjndloeflgiaaGreat.Tc7
open Go.RowKit
open Ta0 Ta1 Tc2 Tc4 Tc5
open Nd0 (Kept set_other set_same lt_of_cell)

set_option linter.unusedVariables false

end Go.Proofs.YtbnjndloeflgiaaGreat.Tc7

/- Packed tables: what is not. -/
namespace Go.Proofs.YtbnjndloeflgiaaGreat.Tc8
open Go.RowKit
open Ta0 Ta1 Tc2 Tc4 Tc5 Tc7
open Nd0 (Kept set_other set_same lt_of_cell)
set_option linter.unusedVariables false

end Go.Proofs.YtbnjndloeflgiaaGreat.Tc8

/- Packed tables: two put together, by and or by exclusive or. -/
namespace Go.Proofs.YtbnjndloeflgiaaGreat.Tc9
open Go.RowKit
open Ta0 Ta1 Tc2 Tc4 Tc5 Tc7 Tc8
open Nd0 (Kept set_other set_same lt_of_cell)
set_option linter.unusedVariables false

end Go.Proofs.YtbnjndloeflgiaaGreat.Tc9

/- Packed tables: a half. -/
namespace Go.Proofs.YtbnjndloeflgiaaGreat.Tc10
open Go.RowKit
open Ta0 Ta1 Tc2 Tc4 Tc5 Tc7 Tc8
open Nd0 (Kept set_other set_same lt_of_cell)
set_option linter.unusedVariables false

end Go.Proofs.YtbnjndloeflgiaaGreat.Tc10

/- Plain facts of tables: halves, places, needs. -/
namespace Go.Proofs.YtbnjndloeflgiaaGreat.Ta2
open Go.RowKit
open Ta0 Ta1
open Ss0 (bs bs_size)
set_option linter.unusedVariables false

def bitB (x : Int) : Bool := decide (x = 0 ∨ x = 1)
def plc (l : List Int) : Nat → Nat
  | 0 => 0
  | k + 1 => 2 * plc l k + (l.getD k 0).toNat
theorem plc_lt {l : List Int} {k : Nat} (h : ∀ i, i < k → bitB (l.getD i 0) = true) : plc l k < 2 ^ k := by
  induction k with
  | zero => exact Nat.one_pos
  | succ k ih =>
    have h1 := ih fun i hi => h i (by omega)
    have h2 := of_decide_eq_true (h k (by omega))
    show 2 * plc l k + _ < _
    rw [Nat.pow_succ]
    rcases h2 with h2 | h2 <;> rw [h2] <;> simp <;> omega
def atB (n : Nat) (F : Nat → Bool) (l : List Int) : Int := if l.length = n ∧ ∀ i, i < l.length → bitB (l.getD i 0) = true then ((F (plc l l.length)).toNat : Int) else -1
theorem at_len {n : Nat} {F : Nat → Bool} {l : List Int} (h : l.length ≠ n) : atB n F l = -1 := by unfold atB; rw [if_neg fun k => h k.1]
theorem at_bad {n : Nat} {F : Nat → Bool} {l : List Int} {i : Nat} (hi : i < l.length) (h : bitB (l.getD i 0) = false) : atB n F l = -1 := by
  unfold atB; rw [if_neg fun k => by have := k.2 i hi; rw [h] at this; cases this]
theorem at_good {n : Nat} {F : Nat → Bool} {l : List Int} (h : l.length = n) (h2 : ∀ i, i < l.length → bitB (l.getD i 0) = true) : atB n F l = ((F (plc l l.length)).toNat : Int) := by
  unfold atB; rw [if_pos ⟨h, h2⟩]

end Go.Proofs.YtbnjndloeflgiaaGreat.Ta2

/- The program's functions over tables: count, known, not. -/
namespace Go.Proofs.YtbnjndloeflgiaaGreat.Te1
open Go.RowKit
open Ta0 Ta1 Ta2 Tc2 Tc4 Tc5 Tc6 Tc7 Tc8 Td1 Td2
open Nd0 (Kept Ints set_other set_same lt_of_cell)
open Ss0 (bs bs_size)
open Ss1 (tl tl_length tl_get tl_take tl_bs)
set_option linter.unusedVariables false

theorem iOk1 (n : Nat) (F : Nat → Bool) (w : World) (hn : n ≤ 12) :
    Calls Tryz.prog 9 #[tv (n : Int) (bs (tab n F))] w fun e w' => e = .returned (.bool true) ∧ Below w.heap.size w w' := by
  have := iTableOk (n : Int) (bs (tab n F)) w (by rw [bs_size, tab_length]; have := p12 hn; omega)
  rwa [tl_bs, tab_tok F hn] at this
set_option maxHeartbeats 400000 in
theorem iBitOk (x : Int) (w : World) : Calls Tryz.prog 58 #[.int .i64 x] w fun e w' => e = .returned (.bool (bitB x)) ∧ w' = w := by
  by_cases h0 : x = 0
  · have hb : (x == 0) = true := by rw [h0]; rfl
    have HB : Hid (bitB x = true) := decide_eq_true (.inl h0)
    clear h0
    go_enter Tryz.func58, Tryz.ntmps58
    go_wp2
    go_ret
    exact ⟨ret_bool HB.out.symm, rfl⟩
  · have hb : (x == 0) = false := beq_eq_false_iff_ne.2 h0
    by_cases h1 : x = 1
    · have hb1 : (x == 1) = true := by rw [h1]; rfl
      have HB : Hid (bitB x = true) := decide_eq_true (.inr h1)
      clear h0 h1
      go_enter Tryz.func58, Tryz.ntmps58
      go_wp2
      go_ret
      exact ⟨ret_bool HB.out.symm, rfl⟩
    · have hb1 : (x == 1) = false := beq_eq_false_iff_ne.2 h1
      have HB : Hid (bitB x = false) := decide_eq_false (by omega)
      clear h0 h1
      go_enter Tryz.func58, Tryz.ntmps58
      go_wp2
      go_ret
      exact ⟨ret_bool HB.out.symm, rfl⟩

end Go.Proofs.YtbnjndloeflgiaaGreat.Te1

/- The model's functions over tables: both. -/
namespace Go.Proofs.YtbnjndloeflgiaaGreat.Td3
open Go.RowKit
open Ta0 Ta1 Tc2 Tc5 Ap9 Td1 Td2
open Nd0 (Kept set_other set_same lt_of_cell)
open Ss0 (bs bs_size)
open Ss1 (tl tl_length tl_get tl_take tl_bs)
set_option linter.unusedVariables false

end Go.Proofs.YtbnjndloeflgiaaGreat.Td3

/- The model's functions over tables: half, at. -/
namespace Go.Proofs.YtbnjndloeflgiaaGreat.Td4
open Go.RowKit
open Ta0 Ta1 Ta2 Tc2 Tc5 Ap9 Td1 Td2
open Nd0 (Kept Ints set_other set_same lt_of_cell)
open Ss0 (bs bs_size)
open Ss1 (tl tl_length tl_get tl_take tl_bs)
set_option linter.unusedVariables false

set_option maxHeartbeats 2000000 in
theorem sTableAt (n : Nat) (F : Nat → Bool) (a : Option Addr) (l : List Int) (c : Nat) (w : World) (hn : n ≤ 12) (hI : Ints w a l) :
    Calls Tryz.prog 14 #[tv (n : Int) (bs (tab n F)), .slice a l.length c] w fun e w' => e = .returned (.int .i64 (atB n F l)) ∧ Below w.heap.size w w' := by
  have HO : Hid (∀ W, Calls Tryz.prog 43 #[tv (n : Int) (bs (tab n F))] W fun e w' => e = .returned (.bool true) ∧ Below W.heap.size W w') := fun W => sOk1 n F W hn
  have HIn : Hid (Ints w a l) := hI
  have hm := hI.1
  unfold maxLen at hm
  clear hI
  obtain ⟨hp, hl⟩ := p12 hn
  have HG : Hid (Sg (bs (tab n F)) (2 ^ n) F) := sg_tab n F
  generalize bs (tab n F) = S at *
  have hSP : S.size ≤ 4096 := by rw [HG.out.size]; exact hl
  have HL0 : Hid (Lay (w.alloc (.cells #[.int .i64 (n : Int), .string S] 30)) w.heap.size (.int .i64 (n : Int)) (.string S)) := Lay.made _ _ _ _
  have HA : Hid (Below w.heap.size w (w.alloc (.cells #[.int .i64 (n : Int), .string S] 30))) := (Below.refl _ _).alloc (Nat.le_refl _) _
  by_cases hln : l.length = n
  · have hlz : ((l.length : Int) != (n : Int)) = false := by rw [hln]; simp
    have HLN : Hid (l.length = n) := hln
    have hl12 : l.length ≤ 12 := by omega
    clear hln
    go_enter Tryz.func14, Tryz.ntmps14
    go_wp2_with fail
    refine (HO.out _).mono ?_
    rintro e w1 ⟨rfl, hb⟩
    have HB : Hid (Below w.heap.size w w1) := HA.out.trans (hb.mono HA.out.size)
    obtain ⟨x0, x1, _, _⟩ := HL0.out.below hb
    clear hb
    have HI1 : Hid (Ints w1 a l) := HIn.out.below HB.out
    go_wp2
    go_loop [5, 6] (fun p i => ∃ k : Nat, k ≤ l.length ∧ i = .int .i64 k ∧ p = .int .i64 ((plc l k : Nat) : Int) ∧ ∀ j, j < k → bitB (l.getD j 0) = true) (fun _ i => l.length - (intOf i).toNat)
    case atStart => exact ⟨0, Nat.zero_le _, rfl, rfl, fun j hj => by omega⟩
    case round =>
      obtain ⟨k, hk, rfl, rfl, hbt⟩ := hrel
      have hpl : plc l k < 4096 + 1 := by
        have h1 := plc_lt hbt
        have h2 := (p12 (n := k) (by omega)).2
        omega
      have HBT : Hid (∀ j, j < k → bitB (l.getD j 0) = true) := hbt
      clear hbt
      by_cases hlt : k < l.length
      · have hkz : (k : Int) < (l.length : Int) := by omega
        rcases HI1.out.2 with h0 | ⟨xb, xo, rfl, hc⟩
        · omega
        have p0 := hc k hlt
        clear hc
        have hgd : l.getD k 0 = l[k] := by simp [List.getD, hlt]
        have HPS : Hid (plc l (k + 1) = 2 * plc l k + (l.getD k 0).toNat) := rfl
        generalize plc l k = y at *
        rw [← hgd] at p0
        clear hgd
        obtain ⟨x, hx⟩ : ∃ x, x = l.getD k 0 := ⟨_, rfl⟩
        rw [← hx] at p0 HPS
        have HX : Hid (x = l.getD k 0) := hx
        clear hx
        cases hB : bitB x
        · have HBd : Hid (atB n F l = -1) := at_bad hlt (by rw [← HX.out]; exact hB)
          have HIC : Hid (∀ W, Calls Tryz.prog 44 #[.int .i64 x, .int .i64 0, .int .i64 1] W fun e w' => e = .returned (.bool false) ∧ w' = W) := fun W => sInF W (fun q => by have := of_decide_eq_false hB; omega)
          clear hB
          go_wp2_with (go_at_call 44; refine (HIC.out _).mono ?_; rintro e w' ⟨rfl, rfl⟩)
          go_ret
          exact ⟨ret_int HBd.out.symm, HB.out⟩
        · have hx2 := of_decide_eq_true hB
          have HIC : Hid (∀ W, Calls Tryz.prog 44 #[.int .i64 x, .int .i64 0, .int .i64 1] W fun e w' => e = .returned (.bool true) ∧ w' = W) := fun W => sInT W (by omega)
          have HBx : Hid (bitB x = true) := hB
          clear hB
          have hx0 : 0 ≤ x := by omega
          have hx1 : x ≤ 1 := by omega
          clear hx2
          go_wp2_with (go_at_call 44; refine (HIC.out _).mono ?_; rintro e w' ⟨rfl, rfl⟩)
          go_round
          case rel => exact ⟨k + 1, by omega, by go_num, by rw [HPS.out]; go_num, fun j hj => by
            by_cases e : j = k
            · rw [e, ← HX.out]; exact HBx.out
            · exact HBT.out j (by omega)⟩
          case measure => simp [intOf]; omega
      · have hkl : k = l.length := by omega
        have HGd : Hid (atB n F l = ((F (plc l k)).toNat : Int)) := by
          show _ = _
          rw [hkl]
          exact at_good HLN.out fun i hi => HBT.out i (by omega)
        have hpS : plc l k < S.size := by
          have h1 := plc_lt HBT.out
          rw [HG.out.size]
          rw [hkl, HLN.out] at h1
          rw [hkl, HLN.out]
          exact h1
        have h9 := HG.out.at_ _ hpS
        have hpz : ((plc l k : Nat) : Int) < (S.size : Int) := by omega
        clear hkl
        generalize plc l k = y at *
        cases hF : F y
        all_goals
          rw [hF] at h9 HGd
          clear hF
          simp only [Bool.toNat_false, Bool.toNat_true, Int.natCast_zero, Int.natCast_one] at h9
          go_wp2
          go_ret
          exact ⟨ret_int (by rw [HGd.out]; rfl), HB.out⟩
  · have hlz : ((l.length : Int) != (n : Int)) = true := bne_iff_ne.2 (by omega)
    have HLn : Hid (atB n F l = -1) := at_len hln
    clear hln
    go_enter Tryz.func14, Tryz.ntmps14
    go_wp2_with fail
    refine (HO.out _).mono ?_
    rintro e w1 ⟨rfl, hb⟩
    have HB : Hid (Below w.heap.size w w1) := HA.out.trans (hb.mono HA.out.size)
    obtain ⟨x0, x1, _, _⟩ := HL0.out.below hb
    clear hb
    go_wp2
    go_ret
    exact ⟨ret_int HLn.out.symm, HB.out⟩

end Go.Proofs.YtbnjndloeflgiaaGreat.Td4

/- The program's functions over tables: half, at. -/
namespace Go.Proofs.YtbnjndloeflgiaaGreat.Te3
open Go.RowKit
open Ta0 Ta1 Ta2 Tc2 Tc4 Tc5 Tc6 Tc7 Tc8 Tc10 Td1 Td2 Te1
open Nd0 (Kept Ints set_other set_same lt_of_cell)
open Ss0 (bs bs_size)
open Ss1 (tl tl_length tl_get tl_take tl_bs)
set_option linter.unusedVariables false

theorem or_bit {y x : Nat} (hy : y < 100000) (hx : x ≤ 1) : bits .or .i64 ((2 * y : Nat) : Int) (x : Int) = ((2 * y + x : Nat) : Int) := by
  rw [bor62 (by omega) (by omega)]
  have h := Nat.two_pow_add_eq_or_of_lt (i := 1) (b := x) (by omega) y
  rw [show (2 : Nat) ^ 1 * y = 2 * y by omega] at h
  rw [h]

set_option maxHeartbeats 2000000 in
theorem iPlaceOf (a : Option Addr) (l : List Int) (c : Nat) (w : World) (hl : l.length ≤ 12) (hI : Ints w a l) :
    Calls Tryz.prog 40 #[.slice a l.length c] w fun e w' => (((∀ i, i < l.length → bitB (l.getD i 0) = true) ∧ e = .returned (.tuple #[.int .i64 ((plc l l.length : Nat) : Int), .bool true])) ∨ ((∃ i, i < l.length ∧ bitB (l.getD i 0) = false) ∧ e = .returned (.tuple #[.int .i64 0, .bool false]))) ∧ w' = w := by
  have HI1 : Hid (Ints w a l) := hI
  clear hI
  go_enter Tryz.func40, Tryz.ntmps40
  go_wp2
  go_loop [4, 9] (fun p i => ∃ k : Nat, k ≤ l.length ∧ i = .int .i64 k ∧ p = .int .i64 ((plc l k : Nat) : Int) ∧ ∀ j, j < k → bitB (l.getD j 0) = true) (fun _ i => l.length - (intOf i).toNat)
  case atStart => exact ⟨0, Nat.zero_le _, rfl, rfl, fun j hj => by omega⟩
  case round =>
    obtain ⟨k, hk, rfl, rfl, hbt⟩ := hrel
    have hpl : plc l k < 4096 + 1 := by
      have h1 := plc_lt hbt
      have h2 := (p12 (n := k) (by omega)).2
      omega
    have HBT : Hid (∀ j, j < k → bitB (l.getD j 0) = true) := hbt
    clear hbt
    by_cases hlt : k < l.length
    · have hkz : (k : Int) < (l.length : Int) := by omega
      rcases HI1.out.2 with h0 | ⟨xb, xo, rfl, hc⟩
      · omega
      have p0 := hc k hlt
      clear hc
      have hgd : l.getD k 0 = l[k] := by simp [List.getD, hlt]
      have HPS : Hid (plc l (k + 1) = 2 * plc l k + (l.getD k 0).toNat) := rfl
      generalize plc l k = y at *
      rw [← hgd] at p0
      clear hgd
      obtain ⟨x, hx⟩ : ∃ x, x = l.getD k 0 := ⟨_, rfl⟩
      rw [← hx] at p0 HPS
      have HX : Hid (x = l.getD k 0) := hx
      clear hx
      have HIC : Hid (∀ W, Calls Tryz.prog 58 #[.int .i64 x] W fun e w' => e = .returned (.bool (bitB x)) ∧ w' = W) := fun W => iBitOk x W
      cases hB : bitB x
      · have HBd : Hid (∃ i, i < l.length ∧ bitB (l.getD i 0) = false) := ⟨k, hlt, by rw [← HX.out]; exact hB⟩
        rw [hB] at HIC
        clear hB
        go_wp2_with (go_at_call 58; refine (HIC.out _).mono ?_; rintro e w' ⟨rfl, rfl⟩)
        go_ret2
        exact ⟨.inr ⟨HBd.out, rfl⟩, rfl⟩
      · have hx2 := of_decide_eq_true hB
        rw [hB] at HIC
        have HBx : Hid (bitB x = true) := hB
        clear hB
        obtain ⟨b, rfl, hb⟩ : ∃ b : Nat, x = (b : Int) ∧ b ≤ 1 := ⟨x.toNat, by omega, by omega⟩
        clear hx2
        obtain ⟨z, hz⟩ : ∃ z : Nat, z = 2 * y + b := ⟨_, rfl⟩
        have ho := or_bit (y := y) (x := b) (by omega) hb
        rw [← hz] at ho
        have ho2 : bits .or .i64 (2 * (y : Int)) (b : Int) = (z : Int) := by rw [← ho]; push_cast; rfl
        have ho3 : bits .or .i64 ((y : Int) * 2) (b : Int) = (z : Int) := by rw [Int.mul_comm]; exact ho2
        have HZ : Hid (z = 2 * y + b) := hz
        clear hz ho
        go_wp2_with (go_at_call 58; refine (HIC.out _).mono ?_; rintro e w' ⟨rfl, rfl⟩)
        go_round
        case rel => exact ⟨k + 1, by omega, by go_num, by rw [HPS.out, Int.toNat_natCast, ← HZ.out], fun j hj => by
          by_cases e : j = k
          · rw [e, ← HX.out]; exact HBx.out
          · exact HBT.out j (by omega)⟩
        case measure => simp [intOf]; omega
    · have HK : Hid (k = l.length) := by show _ = _; omega
      go_wp2
      go_ret2
      exact ⟨.inl ⟨fun i hi => HBT.out i (by omega), by rw [HK.out]; rfl⟩, rfl⟩

set_option maxHeartbeats 2000000 in
theorem iTableAt (n : Nat) (F : Nat → Bool) (a : Option Addr) (l : List Int) (c : Nat) (w : World) (hn : n ≤ 12) (hI : Ints w a l) :
    Calls Tryz.prog 13 #[tv (n : Int) (bs (tab n F)), .slice a l.length c] w fun e w' => e = .returned (.int .i64 (atB n F l)) ∧ Below w.heap.size w w' := by
  have HO : Hid (∀ W, Calls Tryz.prog 9 #[tv (n : Int) (bs (tab n F))] W fun e w' => e = .returned (.bool true) ∧ Below W.heap.size W w') := fun W => iOk1 n F W hn
  have HIn : Hid (Ints w a l) := hI
  have hm := hI.1
  unfold maxLen at hm
  clear hI
  have HPK : Hid (∀ W, Calls Tryz.prog 41 #[tv (n : Int) (bs (tab n F))] W fun e w' => ∃ g, e = .returned (pv n (nw n) g) ∧ W.heap.size ≤ g ∧ Wds w' g (nw n) (upto (2 ^ n) F) ∧ Below W.heap.size W w') := fun W => pack n F W hn
  have HAT : Hid (∀ (W : World) (g k : Nat), k < 2 ^ n → Wds W g (nw n) (upto (2 ^ n) F) → Calls Tryz.prog 42 #[pv n (nw n) g, .int .i64 (k : Int)] W fun e w' => e = .returned (.int .i64 ((F k).toNat : Int)) ∧ Below W.heap.size W w') := fun W g k h1 h2 => by
    have := at_ n g k _ W hn h1 h2
    rwa [show upto (2 ^ n) F k = F k by simp [upto, h1]] at this
  have HPL : Hid (l.length = n → (∀ i, i < l.length → bitB (l.getD i 0) = true) → plc l l.length < 2 ^ n) := fun h k => by
    have := plc_lt k
    rwa [h] at this ⊢
  generalize upto (2 ^ n) F = F1 at *
  generalize bs (tab n F) = S at *
  generalize 2 ^ n = P at *
  generalize nw n = m at *
  have HL0 : Hid (Lay (w.alloc (.cells #[.int .i64 (n : Int), .string S] 30)) w.heap.size (.int .i64 (n : Int)) (.string S)) := Lay.made _ _ _ _
  have HA : Hid (Below w.heap.size w (w.alloc (.cells #[.int .i64 (n : Int), .string S] 30))) := (Below.refl _ _).alloc (Nat.le_refl _) _
  by_cases hln : l.length = n
  · have hlz : ((l.length : Int) != (n : Int)) = false := by rw [hln]; simp
    have HLN : Hid (l.length = n) := hln
    have hl12 : l.length ≤ 12 := by omega
    clear hln
    go_enter Tryz.func13, Tryz.ntmps13
    go_wp2_with fail
    refine (HO.out _).mono ?_
    rintro e w1 ⟨rfl, hb⟩
    have HB : Hid (Below w.heap.size w w1) := HA.out.trans (hb.mono HA.out.size)
    obtain ⟨x0, x1, _, _⟩ := HL0.out.below hb
    clear hb
    go_wp2_with fail
    refine (iPlaceOf a l c _ hl12 (HIn.out.below HB.out)).mono ?_
    rintro e w2 ⟨h, hw⟩
    have hw' := hw.symm
    clear hw
    subst hw'
    rcases h with ⟨hok, rfl⟩ | ⟨⟨i, hi, hbad⟩, rfl⟩
    · have HGd : Hid (atB n F l = ((F (plc l l.length)).toNat : Int)) := at_good HLN.out hok
      have hpp := HPL.out HLN.out hok
      clear hok
      generalize plc l l.length = y at *
      go_wp2_with fail
      refine (HPK.out _).mono ?_
      rintro e w3 ⟨g, rfl, hg, hw3, hb⟩
      have HB3 : Hid (Below w.heap.size w w3) := HB.out.trans (hb.mono HB.out.size)
      clear hb x0 x1
      go_wp2_with fail
      refine (HAT.out _ g y hpp hw3).mono ?_
      rintro e w4 ⟨rfl, hb⟩
      have HB4 : Hid (Below w.heap.size w w4) := HB3.out.trans (hb.mono HB3.out.size)
      clear hb hw3
      go_wp2
      go_ret
      exact ⟨ret_int HGd.out.symm, HB4.out⟩
    · have HBd : Hid (atB n F l = -1) := at_bad hi hbad
      clear hbad
      go_wp2
      go_ret
      exact ⟨ret_int HBd.out.symm, HB.out⟩
  · have hlz : ((l.length : Int) != (n : Int)) = true := bne_iff_ne.2 (by omega)
    have HLn : Hid (atB n F l = -1) := at_len hln
    clear hln
    go_enter Tryz.func13, Tryz.ntmps13
    go_wp2_with fail
    refine (HO.out _).mono ?_
    rintro e w1 ⟨rfl, hb⟩
    have HB : Hid (Below w.heap.size w w1) := HA.out.trans (hb.mono HA.out.size)
    obtain ⟨x0, x1, _, _⟩ := HL0.out.below hb
    clear hb
    go_wp2
    go_ret
    exact ⟨ret_int HLn.out.symm, HB.out⟩

end Go.Proofs.YtbnjndloeflgiaaGreat.Te3
