/- Small texts of mine, one behind the other. -/
import Derived.Test.YtnbenffechplgaaGreatPkVE13
import Derived.Test.YtnbenffechplgaaGreatPkVE14
import Derived.Test.YtnbenffechplgaaGreatPkVE3
import Derived.Test.YtnbenffechplgaaGreatPkVE16
import Derived.Test.YtnbenffechplgaaGreatPkVE21
import Derived.Test.YtnbenffechplgaaGreatSv5
import Derived.Test.YtnbenffechplgaaGreatSp7
/- A term's text is read as a list with a node of that text; what a text that is cut off is read as. -/
namespace Go.Proofs.YtnbenffechplgaaGreat.Tx4
open Nd0 Pl1 Tm0 Tm1 Tm3 Tm8 Tx0 Tx1 Tx2 Tx3 Tr0

end Go.Proofs.YtnbenffechplgaaGreat.Tx4

/- A term's canonical form is worth what it is worth. -/
namespace Go.Proofs.YtnbenffechplgaaGreat.Vl3
open Nd0 Pl1 Pl2 Tm0 Tm1 Tm3 Tm5 Tm8 Tm11 Tm13 Tm14 Tx0 Tx2 Tx3 Tx4 Tr0 Vl1 Vl2
set_option linter.unusedVariables false

theorem value_parts {l : List Nd} {e : List Int} {x : Int} : valueL l e = some x ↔ termOk l = true ∧ e.length = 8 ∧ bitsTo l l.length ≤ 12 ∧ fitT (root l) e = true ∧ vT (root l) e = x := by
  unfold valueL
  split
  · rename_i hc
    simp only [Bool.and_eq_true, decide_eq_true_eq] at hc
    constructor
    · intro h; cases h; exact ⟨hc.1.1.1, hc.1.1.2, hc.1.2, hc.2, rfl⟩
    · intro h; rw [h.2.2.2.2]
  · rename_i hc
    simp only [Bool.and_eq_true, decide_eq_true_eq] at hc
    constructor
    · intro h; cases h
    · intro h; exact absurd ⟨⟨⟨h.1, h.2.1⟩, h.2.2.1⟩, h.2.2.2.1⟩ hc
end Go.Proofs.YtnbenffechplgaaGreat.Vl3

/- A node put on a term; a variable told by a number: what that is worth. -/
namespace Go.Proofs.YtnbenffechplgaaGreat.Vl4
open Nd0 Pl1 Pl2 Tm0 Tm1 Tm3 Tm5 Tm8 Tm11 Tm12 Tm13 Tm14 Tx2 Tr0 Vl1 Vl2 Vl3
set_option linter.unusedVariables false

section
variable {t : List Nd} {q : Nd} (hT : termOk t = true) (hQ : termOk (t ++ [q]) = true) (hp : parts q = [(t.length : Int) - 1])
include hT hQ hp

end

end Go.Proofs.YtnbenffechplgaaGreat.Vl4

/- A sentence that is denied: it is a sentence, of the same bits, and worth the other one. -/
namespace Go.Proofs.YtnbenffechplgaaGreat.Vl5
open Nd0 Pl1 Pl2 Tm0 Tm1 Tm2 Tm3 Tm4 Tm5 Tm6 Tm7 Tm8 Tm9 Tm10 Tm11 Tm12 Tm13 Tm14 Tr0 Vl1 Vl2 Vl3 Vl4
set_option linter.unusedVariables false

section
variable {t : List Nd} {q : Nd} (hT : termOk t = true) (hQ : termOk (t ++ [q]) = true) (hp : parts q = [(t.length : Int) - 1])
include hT hQ hp
end
def holdsL (l : List Nd) : Option Int := if sentB l then valueL l (List.replicate 8 0) else none

end Go.Proofs.YtnbenffechplgaaGreat.Vl5

/- The walk of the model's Value and Holds. -/
namespace Go.Proofs.YtnbenffechplgaaGreat.Sv6
open Go.RowKit
open Nd0 Pl1 Tm0 Tm1 Tm3 Tm5 Tm6 Tm8 Tm11 Tm13 Tm14 Ap0 Ap2 Tr0 Rw0 Vl1 Vl2 Vl3 Vl5 Vm0 Kp1
open Sp10 (sQuant)
open Sp7 (sPrune)
open Sp4 (sTermOk)
open Sv4 (sAt)
open Sv5 (sFits)
open Wd1 (ret_int ret_bool)
set_option linter.unusedVariables false

theorem app_intsO {ops : Array Oper} {rest : List Oper} {o : Oper} {a : Act} {Q : Exit → Act → World → Prop} (W : World) (hgd : o.guard = none) (s x : Operand)
    (ho : o.op = .call { callee := .builtin .append, args := #[s, x], argTypes := #[41, 41] })
    (B : Nat) (v : Value) (l ys : List Int) (g d c : Nat) (hs : a.eval s = v) (hx : a.eval x = .slice (some ⟨g, d, none⟩) ys.length c)
    (hy : ∀ j (h : j < ys.length), W.cell? ⟨g, d + j, none⟩ = some (.int .i64 ys[j])) (hp : 0 < ys.length)
    (hown : Ows W B v l) (hB : B ≤ W.heap.size) (hlen : l.length + ys.length ≤ 1048577)
    (h : ∀ g cap w', Ows w' B (.slice (some ⟨g, 0, none⟩) (l.length + ys.length) cap) (l ++ ys) → Kept (fun k => v.ownBlock = some k) W w' → wpList Tryz.prog ops Q rest (a.put o.dst (.slice (some ⟨g, 0, none⟩) (l.length + ys.length) cap)) w') :
    wpList Tryz.prog ops Q (o :: rest) a W := by
  obtain ⟨i, hi, hzz⟩ := Option.map_eq_some_iff.1 infoInt
  simp only [Prod.mk.injEq] at hzz
  obtain ⟨hz, hsz, hb⟩ := hzz
  refine wpList_append_lies W hgd s x 41 ho B 3 i (.int .i64 0) 1 8 Tryz.underlying41 hi hz hsz hb rfl (by omega) v l.length (l.map fun x => .int .i64 x) hs hown
    ⟨g, d, none⟩ ys.length c (ys.map fun x => .int .i64 x) hx (by simp) ?_ ?_ hp (by unfold maxLen; omega) (by omega) hB _ rfl ?_
  · intro j u hu
    have hadd : (⟨g, d, none⟩ : Addr).add j = ⟨g, d + j, none⟩ := by unfold Addr.add; split <;> simp_all
    rw [hadd]
    rw [List.getElem?_map] at hu
    obtain ⟨y, hy1, rfl⟩ := Option.map_eq_some_iff.1 hu
    obtain ⟨hj, rfl⟩ := List.getElem?_eq_some_iff.1 hy1
    exact hy j hj
  · intro u hu
    obtain ⟨y, _, rfl⟩ := List.mem_map.1 hu
    rfl
  · intro g cap w' h1 h2 h3 h4
    refine h g cap w' ?_ ?_
    · unfold Ows
      simpa using h1
    · exact ⟨h2.os, h2.tape, h2.output, h2.size, fun k hk hn => h2.block k hk (fun e => hn e.symm)⟩

def vRes (o : Option Int) : Value := .tuple #[.int .i64 (o.getD 0), .bool o.isSome]
theorem val_none {l : List Nd} {e : List Int} (h : ¬ (termOk l = true ∧ e.length = 8 ∧ bitsTo l l.length ≤ 12 ∧ fitT (root l) e = true)) : valueL l e = none := by
  cases hv : valueL l e with
  | none => rfl
  | some x =>
    obtain ⟨h1, h2, h3, h4, _⟩ := value_parts.1 hv
    exact absurd ⟨h1, h2, h3, h4⟩ h

set_option maxRecDepth 100000 in
set_option maxHeartbeats 16000000 in
theorem sValue (w : World) (a ae : Option Addr) (l : List Nd) (e : List Int) (c ce : Nat) (hN : Nodes w a l) (hI : Ints w ae e) :
    Calls Tryz.prog 26 #[.slice a l.length c, .slice ae e.length ce] w fun x w' => x = .returned (vRes (valueL l e)) ∧ Below w.heap.size w w' := by
  have HN : Hid (Nodes w a l) := hN
  have HI : Hid (Ints w ae e) := hI
  clear hN hI
  go_enter Tryz.func26, Tryz.ntmps26
  go_wp2_with fail
  refine (sTermOk _ a l c HN.out).mono ?_
  rintro x0 w1 ⟨rfl, hb1⟩
  have HB1 : Hid (Below w.heap.size w w1) := hb1
  clear hb1
  cases hT : termOk l
  · have HV : Hid (valueL l e = none) := val_none (fun h => by rw [hT] at h; cases h.1)
    go_wp2
    go_ret2
    rw [HV.out]
    exact ⟨rfl, HB1.out⟩
  · have HT : Hid (termOk l = true) := hT
    clear hT
    by_cases h8 : e.length = 8
    · rw [h8]
      have HPR : Hid (valueL l e = valueL (pruneL l) e) := (value_prune HT.out e).symm
      have hTP := prune_term HT.out
      have hRP : ∀ j, j < (pruneL l).length → flag (reachL (pruneL l)) j = true := fun j hj => prune_reach HT.out hj
      go_wp2_with fail
      refine (sPrune _ a l c (HN.out.below HB1.out)).mono ?_
      rintro x0 w2 ⟨⟨v2, rfl, ho2⟩, hb2⟩
      obtain ⟨a2, c2, rfl, hn2⟩ := ho2.form
      have hL1 := term_len hTP
      generalize pruneL l = P at hTP hRP hn2 hL1 HPR ⊢
      have HTP : Hid (termOk P = true) := hTP
      have HRP : Hid (∀ j, j < P.length → flag (reachL P) j = true) := hRP
      have HNP : Hid (Nodes w2 a2 P) := hn2.nodes
      have HB2 : Hid (Below w.heap.size w w2) := HB1.out.trans (hb2.mono HB1.out.size)
      have HI2 : Hid (Ints w2 ae e) := HI.out.below HB2.out
      clear hTP hRP ho2 hn2 hb2
      go_wp2_with fail
      go_loop [7, 8] (fun s q => ∃ i : Nat, i ≤ P.length ∧ q = .int .i64 (i : Int) ∧ s = .int .i64 (bitsTo P i)) (fun _ q => P.length - (intOf q).toNat)
      case atStart => exact ⟨0, Nat.zero_le _, rfl, rfl⟩
      case round =>
        obtain ⟨i, hi, rfl, rfl⟩ := hrel
        by_cases hlt : i < P.length
        · have hlz : (i : Int) < (P.length : Int) := by omega
          rcases HNP.out.2 with h0 | ⟨xb, xo, rfl, hc⟩
          · omega
          have p0 := (hc i hlt).c0
          have p4 := (hc i hlt).c4
          rw [nth_get hlt] at p0 p4
          clear hc
          have HBN : Hid (bitsTo P (i + 1) = if quant (nth P i).op then bitsTo P i + (nth P i).b else bitsTo P i) := by
            show (if _ then _ else _) = _
            rw [HRP.out i hlt, Bool.true_and]
          have hbb := bits_bound HTP.out i hi
          have HQB : Hid (quant (nth P i).op = true → 1 ≤ (nth P i).b ∧ (nth P i).b ≤ 8) := fun h => quant_b (term_node HTP.out hlt) h
          generalize bitsTo P i = z at HBN hbb ⊢
          generalize nth P i = n at p0 p4 HBN HQB
          obtain ⟨hb0, hb9⟩ := hbb
          cases hqu : quant n.op
          · have HB2' : Hid (bitsTo P (i + 1) = z) := by
              show _ = _
              rw [HBN.out, hqu]; rfl
            go_wp2_with (go_at_call 45; refine (sQuant _ _).mono ?_; rintro x0 w2 ⟨rfl, rfl⟩; rw [hqu])
            go_round
            case rel => exact ⟨i + 1, by omega, by go_num, by rw [HB2'.out]⟩
            case measure => simp [intOf]; omega
          · have HB2' : Hid (bitsTo P (i + 1) = z + n.b) := by
              show _ = _
              rw [HBN.out, hqu]; rfl
            obtain ⟨hq1, hq2⟩ := HQB.out hqu
            go_wp2_with (go_at_call 45; refine (sQuant _ _).mono ?_; rintro x0 w2 ⟨rfl, rfl⟩; rw [hqu])
            go_round
            case rel => exact ⟨i + 1, by omega, by go_num, by rw [HB2'.out]⟩
            case measure => simp [intOf]; omega
        · have hlz : ¬ (i : Int) < (P.length : Int) := by omega
          have hie : i = P.length := by omega
          have HBT : Hid (bitsTo P i = bitsTo P P.length) := by
            show _ = _
            rw [hie]
          clear hie
          generalize bitsTo P i = z at HBT ⊢
          by_cases h12 : 12 < z
          · have HV : Hid (valueL l e = none) := HPR.out.trans (val_none (fun h => by have := h.2.2.1; rw [← HBT.out] at this; omega))
            go_wp2
            go_ret2
            rw [HV.out]
            exact ⟨rfl, HB2.out⟩
          · have h12z : ¬ (12 < z) := h12
            go_wp2_with fail
            refine (sFits _ a2 ae P e c2 ce HNP.out HTP.out HRP.out HI2.out h8).mono ?_
            rintro x0 w3 ⟨rfl, hb3⟩
            have HB3 : Hid (Below w.heap.size w w3) := HB2.out.trans (hb3.mono HB2.out.size)
            have HN3 : Hid (Nodes w3 a2 P) := HNP.out.below hb3
            have HI3 : Hid (Ints w3 ae e) := HI2.out.below hb3
            clear hb3
            cases hf : fitT (root P) e
            · have HV : Hid (valueL l e = none) := HPR.out.trans (val_none (fun h => by rw [hf] at h; cases h.2.2.2))
              go_wp2
              go_ret2
              rw [HV.out]
              exact ⟨rfl, HB3.out⟩
            · have HV : Hid (valueL l e = some (vT (tr P (P.length - 1)) e)) := HPR.out.trans (value_parts.2 ⟨HTP.out, h8, by rw [← HBT.out]; omega, hf, rfl⟩)
              rcases HI3.out.2 with h0 | ⟨eb, eo, rfl, hec⟩
              · omega
              have hebl : eb < w3.heap.size := lt_of_cell (hec 0 (by omega))
              have HEC : Hid (∀ j (h : j < e.length), (w3.alloc (.cells #[] 3)).cell? ⟨eb, eo + j, none⟩ = some (.int .i64 e[j])) := fun j hj => by
                rw [((Below.refl w3.heap.size w3).alloc (Nat.le_refl _) _).cell (p := ⟨eb, eo + j, none⟩) hebl]
                exact hec j hj
              have HLIT : Hid (Ows (w3.alloc (.cells #[] 3)) w3.heap.size (.slice (some ⟨w3.heap.size, 0, none⟩) 0 0) []) := Ows.lit w3 _ (Nat.le_refl _)
              have hs3 : w3.heap.size ≤ (w3.alloc (.cells #[] 3)).heap.size := by simp
              have hcast : (P.length : Int) - 1 = ((P.length - 1 : Nat) : Int) := by omega
              have HCA : Hid ((P.length : Int) - 1 = ((P.length - 1 : Nat) : Int)) := hcast
              clear hec hcast
              go_wp2_with (at_builtin; go_must (refine app_intsO _ rfl _ _ rfl w3.heap.size (.slice (some ⟨w3.heap.size, 0, none⟩) 0 0) [] e eb eo ce rfl (by rw [h8]; rfl) HEC.out (by omega) HLIT.out hs3 (by simp [h8]) ?_; intro g5 cp5 w5 ho5 hk5; rw [show ([] : List Int).length + e.length = 8 by simp [h8]] at ho5 ⊢; have HO5 : Hid (Ows w5 w3.heap.size (.slice (some ⟨g5, 0, none⟩) 8 cp5) e) := ho5; have HK5 : Hid (Below w3.heap.size w3 w5) := ((Below.refl w3.heap.size w3).alloc (Nat.le_refl _) _).trans (hk5.below (fun b hb => (HLIT.out.lt b hb).1) hs3); clear ho5 hk5))
              obtain ⟨g6, c6, hv6, hB6, hl6, hr6⟩ := Rw1.row_ints HO5.out (by omega)
              have HG5 : Hid (w3.heap.size ≤ g5 ∧ Env w5 g5 e) := by
                have e6 : g6 = g5 := by
                  have := congrArg Value.ownBlock hv6
                  simpa [Value.ownBlock] using this.symm
                rw [e6, h8] at hr6
                exact ⟨by omega, hr6⟩
              rw [HCA.out]
              refine (sAt HTP.out (P.length - 1) (by omega) _ a2 c2 g5 cp5 e (HN3.out.below HK5.out) (fun x hx => ?_) h8 HG5.out.2).mono ?_
              · rcases HN3.out.2 with h0 | ⟨xb, xo, hx2, hc⟩
                · omega
                · rw [hx] at hx2
                  have h9 := (hc 0 (by omega)).lt
                  have h10 := Option.some.inj hx2
                  rw [h10]
                  have := HG5.out.1
                  show ¬ xb = g5
                  omega
              rintro x0 w6 ⟨rfl, _, hK6⟩
              have HB6 : Hid (Below w.heap.size w w6) := (HB3.out.trans (HK5.out.mono HB3.out.size)).trans (hK6.below (fun b (eb : b = g5) => by have := HG5.out.1; have := HB3.out.size; omega) (by have := HK5.out.size; have := HB3.out.size; omega))
              clear hK6 hr6 hv6
              go_wp2
              go_ret2
              rw [HV.out]
              exact ⟨rfl, HB6.out⟩
    · have h8z : ((e.length : Int) != 8) = true := by simp; omega
      have HV : Hid (valueL l e = none) := val_none (fun h => h8 h.2.1)
      go_wp2
      go_ret2
      rw [HV.out]
      exact ⟨rfl, HB1.out⟩

end Go.Proofs.YtnbenffechplgaaGreat.Sv6
