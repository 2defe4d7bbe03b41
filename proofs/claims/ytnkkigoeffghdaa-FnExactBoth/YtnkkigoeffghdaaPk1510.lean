/- Small texts of mine, one behind the other. -/
import Derived.Deep.Upon
import Derived.Test.YtnkkigoeffghdaaRows
import Derived.Deep.AppendLies
import Derived.OwnWalk
import Derived.Laws.MakeOwn
import Derived.Test.YtnkkigoeffghdaaPk152
import Derived.Test.YtnkkigoeffghdaaSp8
import Derived.Test.YtnkkigoeffghdaaPk158
import Derived.Test.YtnkkigoeffghdaaPk157
import Derived.Test.YtnkkigoeffghdaaPk156
import Derived.Test.YtnkkigoeffghdaaPk151
import Derived.Test.YtnkkigoeffghdaaPk150
/- The walk of the model's list of free variables. -/
namespace Go.Proofs.Ytnkkigoeffghdaa.Sp9
open Go.RowKit
open Nd0 Nd1 Tm0 Tm1 Tm4 Ap0 Ap1 Sp2 Sp4 Sp8
set_option linter.unusedVariables false

theorem ows_empty {w : World} {B b : Nat} (h : Ows w B (.slice (some ⟨b, 0, none⟩) 0 0) []) (x : Nat) : w.cell? ⟨b, x, none⟩ = none := by
  rcases h.2 with ⟨h0, _⟩ | ⟨g, cap, cur, hv, hb, hg, hn, hm, hs, ht⟩
  · cases h0
  · simp only [Value.slice.injEq, Option.some.injEq, Addr.mk.injEq] at hv
    obtain ⟨⟨rfl, _⟩, _, rfl⟩ := hv
    rw [cell_of_row w b x cur _ _ hg]
    have : cur.size = 0 := by simpa using hs
    simp [this]

set_option maxHeartbeats 2000000 in
theorem sFree (w : World) (a : Option Addr) (l : List Nd) (c : Nat) (hN : Nodes w a l) :
    Calls Try.prog 76 #[.slice a l.length c] w fun e w' => (∃ v, e = .returned v ∧ Ows w' w.heap.size v (freeL l)) ∧ Below w.heap.size w w' := by
  have HN : Hid (Nodes w a l) := hN
  clear hN
  have hlit : Ows (w.alloc (.cells #[] 3)) w.heap.size (.slice (some ⟨w.heap.size, 0, none⟩) 0 0) [] := Ows.lit w _ (Nat.le_refl _)
  have HLIT : Hid (Ows (w.alloc (.cells #[] 3)) w.heap.size (.slice (some ⟨w.heap.size, 0, none⟩) 0 0) []) := hlit
  clear hlit
  have HB0 : Hid (Below w.heap.size w (w.alloc (.cells #[] 3))) := (Below.refl _ _).alloc (Nat.le_refl _) _
  cases hT : termOk l
  · have HR : Hid (freeL l = []) := by show freeL l = []; simp [freeL, hT]
    go_enter Try.func76, Try.ntmps76
    go_wp2_with fail
    refine (sTermOk _ a l c (HN.out.below HB0.out)).mono ?_
    rintro e w1 ⟨rfl, hb1⟩
    have HB1 : Hid (Below (w.alloc (.cells #[] 3)).heap.size (w.alloc (.cells #[] 3)) w1) := hb1
    clear hb1
    go_wp2
    go_ret
    refine ⟨⟨_, rfl, ?_⟩, HB0.out.trans (HB1.out.mono HB0.out.size)⟩
    rw [HR.out]
    exact HLIT.out.kept (S := fun _ => False) (Kept.ofBelow HB1.out) (fun _ _ h => h)
  · have HR : Hid (freeL l = freeTo l 8) := by show freeL l = _; simp [freeL, hT]
    have HT : Hid (termOk l = true) := hT
    obtain ⟨hl1, hl2⟩ := term_len hT
    go_enter Try.func76, Try.ntmps76
    go_wp2_with fail
    refine (sTermOk _ a l c (HN.out.below HB0.out)).mono ?_
    rintro e w1 ⟨rfl, hb1⟩
    have HO1 : Hid (Ows w1 w.heap.size (.slice (some ⟨w.heap.size, 0, none⟩) 0 0) []) := HLIT.out.kept (S := fun _ => False) (Kept.ofBelow hb1) (fun _ _ h => h)
    have HB1 : Hid (Below w.heap.size w w1) := HB0.out.trans (hb1.mono HB0.out.size)
    have hs1 : w.heap.size < w1.heap.size := by have := hb1.size; simp at this; omega
    clear hb1
    go_wp2_with fail
    refine (sFreeTop _ a l c (HN.out.below HB1.out) HT.out).mono ?_
    rintro e w2 ⟨⟨gi, ci, rfl, hg2, hci⟩, hb2⟩
    have HO2 : Hid (Ows w2 w.heap.size (.slice (some ⟨w.heap.size, 0, none⟩) 0 0) []) := HO1.out.kept (S := fun _ => False) (Kept.ofBelow hb2) (fun _ _ h => h)
    have HB2 : Hid (Below w.heap.size w w2) := HB1.out.trans (hb2.mono HB1.out.size)
    have HCI : Hid (∀ x, x < 8 → w2.cell? ⟨gi, x, none⟩ = some (.bool (flag (freeTop l) x))) := hci
    have hgn : gi ≠ w.heap.size := by
      intro e
      have h9 := hci 0 (by omega)
      rw [e, ows_empty HO2.out] at h9
      cases h9
    clear hb2 hT hci
    go_wp2_with fail
    go_loopw [3, 5] (fun v q wr => ∃ k : Nat, k ≤ 8 ∧ q = .int .i64 k ∧ Below w.heap.size w wr ∧ gi < wr.heap.size ∧ (∀ x, x < 8 → wr.cell? ⟨gi, x, none⟩ = some (.bool (flag (freeTop l) x))) ∧ Ows wr w.heap.size v (freeTo l k) ∧ (∀ b, v.ownBlock = some b → b ≠ gi)) (fun _ q _ => 8 - (intOf q).toNat)
    case atStart =>
      refine ⟨0, Nat.zero_le _, rfl, HB2.out, hg2, HCI.out, HO2.out, fun b hb => ?_⟩
      have : b = w.heap.size := by simpa [Value.ownBlock] using hb.symm
      omega
    case round =>
      obtain ⟨k, hk, rfl, hb, hgw, hci, how, hne⟩ := hrel
      have HB : Hid (Below w.heap.size w wr) := hb
      have HI : Hid (∀ x, x < 8 → wr.cell? ⟨gi, x, none⟩ = some (.bool (flag (freeTop l) x))) := hci
      have HO : Hid (Ows wr w.heap.size u3 (freeTo l k)) := how
      have HNE : Hid (∀ b, u3.ownBlock = some b → b ≠ gi) := hne
      have hBs : w.heap.size ≤ wr.heap.size := hb.size
      clear hb how hne
      by_cases hlt : k < 8
      · have hlz : (k : Int) < 8 := by omega
        have cI := hci k hlt
        clear hci
        have hrl := freeTo_length l k
        have HSC : Hid (freeTo l (k + 1) = if flag (freeTop l) k then freeTo l k ++ [(k : Int)] else freeTo l k) := freeTo_succ l k
        cases hf : flag (freeTop l) k
        · rw [hf] at cI
          go_wp2
          go_roundw
          case rel =>
            refine ⟨k + 1, by omega, by go_num, HB.out, hgw, HI.out, ?_, HNE.out⟩
            have h9 := HSC.out
            rw [hf] at h9
            rw [h9]
            exact HO.out
          case measure => simp [intOf]; omega
        · rw [hf] at cI
          go_wp2_with (at_builtin; go_must (refine app_int _ rfl _ _ rfl w.heap.size u3 (freeTo l k) (k : Int) rfl rfl HO.out hBs (by omega) ?_; intro g cp w3 ho3 hk3 hg3))
          have HO3 : Hid (Ows w3 w.heap.size (.slice (some ⟨g, 0, none⟩) ((freeTo l k).length + 1) cp) (freeTo l k ++ [(k : Int)])) := ho3
          have HK3 : Hid (Kept (fun b => u3.ownBlock = some b) wr w3) := hk3
          have HG3 : Hid (u3.ownBlock = some g ∨ wr.heap.size ≤ g) := hg3
          clear ho3 hk3 hg3
          go_wp2
          go_roundw
          case rel =>
            refine ⟨k + 1, by omega, by go_num, HB.out.trans (HK3.out.below (fun b hb => (HO.out.lt b hb).1) hBs), Nat.lt_of_lt_of_le hgw HK3.out.size, (fun x hx => by rw [HK3.out.cell (p := ⟨gi, x, none⟩) hgw (fun h => HNE.out gi h rfl)]; exact HI.out x hx), ?_, ?_⟩
            · have h9 := HSC.out
              rw [hf] at h9
              rw [h9]
              exact HO3.out
            · intro b hb
              have e : b = g := by simpa [Value.ownBlock] using hb.symm
              subst e
              rcases HG3.out with h | h
              · exact HNE.out _ h
              · omega
          case measure => simp [intOf]; omega
      · have e : k = 8 := by omega
        subst e
        go_wp2
        go_ret
        exact ⟨⟨_, rfl, by rw [HR.out]; exact HO.out⟩, HB.out⟩

end Go.Proofs.Ytnkkigoeffghdaa.Sp9

/- The walks of the model's Vars, Level and CountOp. -/
namespace Go.Proofs.Ytnkkigoeffghdaa.Am2
open Go.RowKit
open Nd0 Nd1 Tm0 Tm1 Tm3 Tm5 Tm8 Ap0 Ap1 Sp2 Sp4 Aq0 Am1
open Sp7 (sPrune)
open Sp9 (ows_empty)
open Rw0 (Row)
open Rw1 (row_bools)
set_option linter.unusedVariables false

set_option maxRecDepth 100000 in
set_option maxHeartbeats 4000000 in
theorem sVars (w : World) (a : Option Addr) (l : List Nd) (c : Nat) (hN : Nodes w a l) :
    Calls Try.prog 24 #[.slice a l.length c] w fun e w' => (∃ v, e = .returned v ∧ Ows w' w.heap.size v (varsL l)) ∧ Below w.heap.size w w' := by
  have HN : Hid (Nodes w a l) := hN
  clear hN
  have HLIT : Hid (Ows (w.alloc (.cells #[] 3)) w.heap.size (.slice (some ⟨w.heap.size, 0, none⟩) 0 0) []) := Ows.lit w _ (Nat.le_refl _)
  have HB0 : Hid (Below w.heap.size w (w.alloc (.cells #[] 3))) := (Below.refl _ _).alloc (Nat.le_refl _) _
  have HSZ : Hid ((w.alloc (.cells #[] 3)).heap.size = w.heap.size + 1) := by show _ = _; simp
  go_enter Try.func24, Try.ntmps24
  go_wp2_with fail
  refine (sPrune _ a l c (HN.out.below HB0.out)).mono ?_
  rintro e w1 ⟨⟨v1, rfl, ho1⟩, hb1⟩
  obtain ⟨a1, c1, rfl, hn1⟩ := ho1.form
  have HN1 : Hid (Nodes w1 a1 (pruneL l)) := hn1.nodes
  have HO1 : Hid (Ows w1 w.heap.size (.slice (some ⟨w.heap.size, 0, none⟩) 0 0) []) := HLIT.out.kept (S := fun _ => False) (Kept.ofBelow hb1) (fun _ _ h => h)
  have HB1 : Hid (Below w.heap.size w w1) := HB0.out.trans (hb1.mono HB0.out.size)
  have hs1 : w.heap.size < w1.heap.size := by have := hb1.size; have := HSZ.out; omega
  clear ho1 hn1 hb1
  go_wp2_with fail
  refine (sNums _ a1 (pruneL l) c1 HN1.out).mono ?_
  rintro e w2 ⟨⟨v2, rfl, ho2⟩, hb2⟩
  obtain ⟨gi, ci, rfl, hg1, hg2, hci⟩ := row_bools ho2 (by simp [numRow])
  have HO2 : Hid (Ows w2 w.heap.size (.slice (some ⟨w.heap.size, 0, none⟩) 0 0) []) := HO1.out.kept (S := fun _ => False) (Kept.ofBelow hb2) (fun _ _ h => h)
  have HB2 : Hid (Below w.heap.size w w2) := HB1.out.trans (hb2.mono HB1.out.size)
  have HCI : Hid (∀ x, x < 8 → w2.cell? ⟨gi, x, none⟩ = some (.bool (numB (pruneL l) x))) := fun x hx => by
    have h9 := (hci x (by simp [numRow]; exact hx)).1
    dsimp only at h9
    rw [numRow_flag _ hx] at h9
    exact h9
  have hgn : gi ≠ w.heap.size := by omega
  have hn8 : (numRow (pruneL l)).length = 8 := by simp [numRow]
  rw [hn8]
  clear ho2 hb2 hci HN1 HO1 HB1 hn8
  go_wp2_with fail
  go_loopw [3, 5] (fun v q wr => ∃ k : Nat, k ≤ 8 ∧ q = .int .i64 k ∧ Below w.heap.size w wr ∧ gi < wr.heap.size ∧ (∀ x, x < 8 → wr.cell? ⟨gi, x, none⟩ = some (.bool (numB (pruneL l) x))) ∧ Ows wr w.heap.size v (varsTo (pruneL l) k) ∧ (∀ b, v.ownBlock = some b → b ≠ gi)) (fun _ q _ => 8 - (intOf q).toNat)
  case atStart =>
    refine ⟨0, Nat.zero_le _, rfl, HB2.out, hg2, HCI.out, HO2.out, fun b hb => ?_⟩
    have : b = w.heap.size := by simpa [Value.ownBlock] using hb.symm
    omega
  case round =>
    clear HB2 HO2 HCI
    obtain ⟨k, hk, rfl, hb, hgw, hci, how, hne⟩ := hrel
    have HB : Hid (Below w.heap.size w wr) := hb
    have HI : Hid (∀ x, x < 8 → wr.cell? ⟨gi, x, none⟩ = some (.bool (numB (pruneL l) x))) := hci
    have HO : Hid (Ows wr w.heap.size u3 (varsTo (pruneL l) k)) := how
    have HNE : Hid (∀ b, u3.ownBlock = some b → b ≠ gi) := hne
    have hBs : w.heap.size ≤ wr.heap.size := hb.size
    clear hb how hne
    by_cases hlt : k < 8
    · have hlz : (k : Int) < 8 := by omega
      have cI := hci k hlt
      clear hci
      have hrl := varsTo_length (pruneL l) k
      have HSC : Hid (varsTo (pruneL l) (k + 1) = if numB (pruneL l) k then varsTo (pruneL l) k ++ [(k : Int)] else varsTo (pruneL l) k) := varsTo_succ (pruneL l) k
      cases hf : numB (pruneL l) k
      · rw [hf] at cI
        go_wp2
        go_roundw
        case rel =>
          refine ⟨k + 1, by omega, by go_num, HB.out, hgw, HI.out, ?_, HNE.out⟩
          have h9 := HSC.out
          rw [hf] at h9
          rw [h9]
          exact HO.out
        case measure => simp [intOf]; omega
      · rw [hf] at cI
        go_wp2_with (at_builtin; go_must (refine app_int _ rfl _ _ rfl w.heap.size u3 (varsTo (pruneL l) k) (k : Int) rfl rfl HO.out hBs (by omega) ?_; intro g cp w3 ho3 hk3 hg3))
        have HO3 : Hid (Ows w3 w.heap.size (.slice (some ⟨g, 0, none⟩) ((varsTo (pruneL l) k).length + 1) cp) (varsTo (pruneL l) k ++ [(k : Int)])) := ho3
        have HK3 : Hid (Kept (fun b => u3.ownBlock = some b) wr w3) := hk3
        have HG3 : Hid (u3.ownBlock = some g ∨ wr.heap.size ≤ g) := hg3
        clear ho3 hk3 hg3
        go_wp2
        go_roundw
        case rel =>
          refine ⟨k + 1, by omega, by go_num, HB.out.trans (HK3.out.below (fun b hb => (HO.out.lt b hb).1) hBs), Nat.lt_of_lt_of_le hgw HK3.out.size, (fun x hx => by rw [HK3.out.cell (p := ⟨gi, x, none⟩) hgw (fun h => HNE.out gi h rfl)]; exact HI.out x hx), ?_, ?_⟩
          · have h9 := HSC.out
            rw [hf] at h9
            rw [h9]
            exact HO3.out
          · intro b hb
            have e : b = g := by simpa [Value.ownBlock] using hb.symm
            subst e
            rcases HG3.out with h | h
            · exact HNE.out _ h
            · omega
        case measure => simp [intOf]; omega
    · have e : k = 8 := by omega
      subst e
      go_wp2
      go_ret
      exact ⟨⟨_, rfl, HO.out⟩, HB.out⟩

end Go.Proofs.Ytnkkigoeffghdaa.Am2

/- Walks of the program's small tests of operators, of words, and of its Parts. -/
namespace Go.Proofs.Ytnkkigoeffghdaa.Pg1
open Go.RowKit
open Nd0 Tm0 Tm5 Pl1 Ap0
open Ws1 (ret_int ret_bool)
set_option linter.unusedVariables false

/-- How many parts an operator has. -/
def cnt (op : Int) : Nat := if op = 2 ∨ op = 17 ∨ op = 19 ∨ op = 20 then 1 else if 3 ≤ op ∧ op ≤ 16 then 2 else if op = 18 then 3 else 0
theorem cnt_parts (n : Nd) : (parts n).length = cnt n.op := by
  unfold parts cnt; split
  · rfl
  · split
    · rfl
    · split <;> rfl
theorem cnt_le (op : Int) : cnt op ≤ 3 := by unfold cnt; split; omega; split; omega; split <;> omega
def numbered (op : Int) : Bool := op == 0 || op == 1 || op == 17 || quant op

set_option maxHeartbeats 400000 in
theorem iWidthOk (m : Int) (w : World) :
    Calls Try.prog 126 #[.int .i64 m] w fun e w' => e = .returned (.bool (decide (1 ≤ m ∧ m ≤ 8))) ∧ w' = w := by
  by_cases h1 : 1 ≤ m <;> by_cases h2 : m ≤ 8
  all_goals
    go_enter Try.func126, Try.ntmps126
    go_wp2
    go_ret
    exact ⟨ret_bool (by simp <;> omega), rfl⟩

set_option maxHeartbeats 400000 in
theorem iWordOk (m a : Int) (w : World) :
    Calls Try.prog 138 #[.int .i64 m, .int .i64 a] w fun e w' => e = .returned (.bool (wok m a)) ∧ w' = w := by
  by_cases h : 1 ≤ m ∧ m ≤ 8
  · have hd : decide (1 ≤ m ∧ m ≤ 8) = true := by simpa using h
    by_cases ha : 0 ≤ a
    all_goals
      go_enter Try.func138, Try.ntmps138
      go_wp2_with (go_at_call 126; refine (iWidthOk _ _).mono ?_; rintro e w' ⟨rfl, rfl⟩)
      go_ret
      exact ⟨ret_bool (by rw [Bool.eq_iff_iff]; try rw [wrap_p2 _ (by omega)]
                          simp [wok]; omega), rfl⟩
  · have hd : decide (1 ≤ m ∧ m ≤ 8) = false := by simpa using h
    go_enter Try.func138, Try.ntmps138
    go_wp2_with (go_at_call 126; refine (iWidthOk _ _).mono ?_; rintro e w' ⟨rfl, rfl⟩)
    go_ret
    exact ⟨ret_bool (by unfold wok; symm; rw [decide_eq_false_iff_not]; omega), rfl⟩

set_option maxHeartbeats 400000 in
theorem iVarOk (m : Int) (w : World) :
    Calls Try.prog 72 #[.int .i64 m] w fun e w' => e = .returned (.bool (decide (0 ≤ m ∧ m ≤ 7))) ∧ w' = w := by
  by_cases h1 : 0 ≤ m <;> by_cases h2 : m < 8
  all_goals
    go_enter Try.func72, Try.ntmps72
    go_wp2
    go_ret
    exact ⟨ret_bool (by simp <;> omega), rfl⟩

set_option maxHeartbeats 400000 in
theorem iQuant (op : Int) (w : World) :
    Calls Try.prog 111 #[.int .i64 op] w fun e w' => e = .returned (.bool (quant op)) ∧ w' = w := by
  cases h1 : (op == 19) <;> cases h2 : (op == 20)
  all_goals
    go_enter Try.func111, Try.ntmps111
    go_wp2
    go_ret
    exact ⟨ret_bool (by unfold quant; rw [h1, h2]; rfl), rfl⟩

set_option maxHeartbeats 400000 in
theorem iOuter (op : Int) (w : World) :
    Calls Try.prog 135 #[.int .i64 op] w fun e w' => e = .returned (.bool (outer op)) ∧ w' = w := by
  cases h1 : (op == 2) <;> cases h2 : (op == 3) <;> cases h3 : (op == 4)
  all_goals
    go_enter Try.func135, Try.ntmps135
    go_wp2_with (go_at_call 111; refine (iQuant _ _).mono ?_; rintro e w' ⟨rfl, rfl⟩)
    go_ret
    exact ⟨ret_bool (by unfold outer; rw [h1, h2, h3]; rfl), rfl⟩

set_option maxHeartbeats 400000 in
theorem iNumbered (op : Int) (w : World) :
    Calls Try.prog 137 #[.int .i64 op] w fun e w' => e = .returned (.bool (numbered op)) ∧ w' = w := by
  cases h1 : (op == 0) <;> cases h2 : (op == 1) <;> cases h3 : (op == 17)
  all_goals
    go_enter Try.func137, Try.ntmps137
    go_wp2_with (go_at_call 111; refine (iQuant _ _).mono ?_; rintro e w' ⟨rfl, rfl⟩)
    go_ret
    exact ⟨ret_bool (by unfold numbered; rw [h1, h2, h3]; rfl), rfl⟩

set_option maxHeartbeats 1000000 in
theorem iCount (op : Int) (w : World) :
    Calls Try.prog 93 #[.int .i64 op] w fun e w' => e = .returned (.int .i64 (cnt op : Int)) ∧ w' = w := by
  have HC : Hid (∀ k : Nat, cnt op = k → (k : Int) = (cnt op : Int)) := fun k h => by rw [h]
  have q1 : (op == 2) = false → (op == 17) = false → quant op = false → ¬ (op = 2 ∨ op = 17 ∨ op = 19 ∨ op = 20) := by
    intro a b c; simp [quant] at a b c; omega
  have HQ : Hid ((op == 2) = false → (op == 17) = false → quant op = false → ¬ (op = 2 ∨ op = 17 ∨ op = 19 ∨ op = 20)) := q1
  have HR : Hid ((op == 2) = true ∨ (op == 17) = true ∨ quant op = true → (op = 2 ∨ op = 17 ∨ op = 19 ∨ op = 20)) := by
    show _ → _
    rintro (a | a | a)
    · simp at a; omega
    · simp at a; omega
    · simp [quant] at a; omega
  clear q1
  cases h1 : (op == 2)
  · cases h2 : (op == 17)
    · cases h3 : quant op
      · have HN := HQ.out h1 h2 h3
        have HN' : Hid (¬ (op = 2 ∨ op = 17 ∨ op = 19 ∨ op = 20)) := HN
        clear HN
        by_cases h4 : 3 ≤ op
        · by_cases h5 : op ≤ 16
          · have HE : Hid (cnt op = 2) := by
              show cnt op = 2
              unfold cnt; rw [if_neg HN'.out, if_pos ⟨h4, h5⟩]
            go_enter Try.func93, Try.ntmps93
            go_wp2_with (go_at_call 111; refine (iQuant _ _).mono ?_; rintro e w' ⟨rfl, rfl⟩)
            go_ret
            exact ⟨ret_int (HC.out 2 HE.out), rfl⟩
          · cases h6 : (op == 18)
            · have HE : Hid (cnt op = 0) := by
                show cnt op = 0
                unfold cnt; rw [if_neg HN'.out, if_neg (by omega), if_neg (by simpa using h6)]
              go_enter Try.func93, Try.ntmps93
              go_wp2_with (go_at_call 111; refine (iQuant _ _).mono ?_; rintro e w' ⟨rfl, rfl⟩)
              go_ret
              exact ⟨ret_int (HC.out 0 HE.out), rfl⟩
            · have HE : Hid (cnt op = 3) := by
                show cnt op = 3
                unfold cnt; rw [if_neg HN'.out, if_neg (by omega), if_pos (by simpa using h6)]
              go_enter Try.func93, Try.ntmps93
              go_wp2_with (go_at_call 111; refine (iQuant _ _).mono ?_; rintro e w' ⟨rfl, rfl⟩)
              go_ret
              exact ⟨ret_int (HC.out 3 HE.out), rfl⟩
        · have h6 : (op == 18) = false := by simp; omega
          have HE : Hid (cnt op = 0) := by
            show cnt op = 0
            unfold cnt; rw [if_neg HN'.out, if_neg (by omega), if_neg (by omega)]
          go_enter Try.func93, Try.ntmps93
          go_wp2_with (go_at_call 111; refine (iQuant _ _).mono ?_; rintro e w' ⟨rfl, rfl⟩)
          go_ret
          exact ⟨ret_int (HC.out 0 HE.out), rfl⟩
      · have HE : Hid (cnt op = 1) := by
          show cnt op = 1
          unfold cnt; rw [if_pos (HR.out (.inr (.inr h3)))]
        go_enter Try.func93, Try.ntmps93
        go_wp2_with (go_at_call 111; refine (iQuant _ _).mono ?_; rintro e w' ⟨rfl, rfl⟩)
        go_ret
        exact ⟨ret_int (HC.out 1 HE.out), rfl⟩
    · have HE : Hid (cnt op = 1) := by
        show cnt op = 1
        unfold cnt; rw [if_pos (HR.out (.inr (.inl h2)))]
      go_enter Try.func93, Try.ntmps93
      go_wp2_with (go_at_call 111; refine (iQuant _ _).mono ?_; rintro e w' ⟨rfl, rfl⟩)
      go_ret
      exact ⟨ret_int (HC.out 1 HE.out), rfl⟩
  · have HE : Hid (cnt op = 1) := by
      show cnt op = 1
      unfold cnt; rw [if_pos (HR.out (.inl h1))]
    go_enter Try.func93, Try.ntmps93
    go_wp2_with (go_at_call 111; refine (iQuant _ _).mono ?_; rintro e w' ⟨rfl, rfl⟩)
    go_ret
    exact ⟨ret_int (HC.out 1 HE.out), rfl⟩

end Go.Proofs.Ytnkkigoeffghdaa.Pg1

/- The walk of the program's Parts. -/
namespace Go.Proofs.Ytnkkigoeffghdaa.Pg2
open Go.RowKit
open Nd0 Tm0 Tm5 Pl1 Ap0 Pg1
open Ws1 (ret_int ret_bool)
set_option linter.unusedVariables false

/-- Some numbers more. -/
theorem app_ints {ops : Array Oper} {rest : List Oper} {o : Oper} {a : Act} {Q : Exit → Act → World → Prop} (W : World) (hgd : o.guard = none) (s x : Operand)
    (ho : o.op = .call { callee := .builtin .append, args := #[s, x], argTypes := #[32, 32] })
    (B : Nat) (v : Value) (l ys : List Int) (g c : Nat) (hs : a.eval s = v) (hx : a.eval x = .slice (some ⟨g, 0, none⟩) ys.length c)
    (hy : ∀ j (h : j < ys.length), W.cell? ⟨g, j, none⟩ = some (.int .i64 ys[j])) (hp : 0 < ys.length)
    (hown : Ows W B v l) (hB : B ≤ W.heap.size) (hlen : l.length + ys.length ≤ 1048577)
    (h : ∀ g cap w', Ows w' B (.slice (some ⟨g, 0, none⟩) (l.length + ys.length) cap) (l ++ ys) → Kept (fun k => v.ownBlock = some k) W w' → wpList Try.prog ops Q rest (a.put o.dst (.slice (some ⟨g, 0, none⟩) (l.length + ys.length) cap)) w') :
    wpList Try.prog ops Q (o :: rest) a W := by
  obtain ⟨i, hi, hzz⟩ := Option.map_eq_some_iff.1 infoInt
  simp only [Prod.mk.injEq] at hzz
  obtain ⟨hz, hsz, hb⟩ := hzz
  refine wpList_append_lies W hgd s x 32 ho B 3 i (.int .i64 0) 1 8 Try.underlying32 hi hz hsz hb rfl (by omega) v l.length (l.map fun x => .int .i64 x) hs hown
    ⟨g, 0, none⟩ ys.length c (ys.map fun x => .int .i64 x) hx (by simp) ?_ ?_ hp (by unfold maxLen; omega) (by omega) hB _ rfl ?_
  · intro j u hu
    have hadd : (⟨g, 0, none⟩ : Addr).add j = ⟨g, j, none⟩ := by unfold Addr.add; split <;> simp_all
    rw [hadd]
    rw [List.getElem?_map] at hu
    obtain ⟨y, hy1, rfl⟩ := Option.map_eq_some_iff.1 hu
    obtain ⟨hj, rfl⟩ := List.getElem?_eq_some_iff.1 hy1
    exact hy j hj
  · intro u hu
    obtain ⟨y, _, rfl⟩ := List.mem_map.1 hu
    rfl
  · intro g cap w' h1 h2 h3 h4
    refine h g cap w' ?_ ?_
    · unfold Ows
      simpa using h1
    · exact ⟨h2.os, h2.tape, h2.output, h2.size, fun k hk hn => h2.block k hk (fun e => hn e.symm)⟩

theorem ows_lit (W : World) (B g : Nat) (hg : g = W.heap.size) (hB : B ≤ g) : Ows (W.alloc (.cells #[] 3)) B (.slice (some ⟨g, 0, none⟩) 0 0) [] := by
  subst hg; exact Ows.lit W B hB

theorem get3 (x y z : Int) (W : World) (g t : Nat) (k : Nat) (hk : k ≤ 3) (hg : g = W.heap.size) (j : Nat) (h : j < (([x, y, z] : List Int).take k).length) (o : Obj) :
    ((W.alloc (.cells #[.int .i64 x, .int .i64 y, .int .i64 z] t)).alloc o).cell? ⟨g, j, none⟩ = some (.int .i64 (([x, y, z] : List Int).take k)[j]) := by
  subst hg
  rw [World.cell?_alloc_old _ _ _ (by simp), World.cell?_alloc_new]
  have h3 : j < 3 := by simp at h; omega
  rcases j with _ | _ | _ | j
  · simp
  · simp
  · simp
  · omega

set_option maxHeartbeats 1000000 in
theorem iParts (n : Nd) (w : World) :
    Calls Try.prog 59 #[.agg #[.int .i64 n.op, .int .i64 n.w, .int .i64 n.k, .int .i64 n.a, .int .i64 n.b, .int .i64 n.c]] w fun e w' => (∃ a c, e = .returned (.slice a (parts n).length c) ∧ WInts w' w.heap.size a (parts n)) ∧ Below w.heap.size w w' := by
  have HP : Hid (parts n = ([n.a, n.b, n.c] : List Int).take (cnt n.op)) := by
    show parts n = _
    unfold parts cnt; split
    · rfl
    · split
      · rfl
      · split <;> rfl
  have hc3 := cnt_le n.op
  by_cases h1 : cnt n.op = 0
  · go_enter Try.func59, Try.ntmps59
    go_wp2_with (go_at_call 93; refine (iCount _ _).mono ?_; rintro e w' ⟨rfl, rfl⟩; rw [h1])
    go_ret
    rw [HP.out, h1]
    exact ⟨⟨_, _, rfl, Nat.zero_le _, .inl rfl⟩, (((Below.refl _ _).alloc (Nat.le_refl _) _).alloc (by simp) _).alloc (by simp; omega) _⟩
  · obtain ⟨l3, hl3⟩ : ∃ l3 : List Int, l3 = ([n.a, n.b, n.c] : List Int).take (cnt n.op) := ⟨_, rfl⟩
    have HL3 : Hid (l3 = ([n.a, n.b, n.c] : List Int).take (cnt n.op)) := hl3
    have hlen : l3.length = cnt n.op := by rw [hl3, List.length_take]; simp; omega
    have HLN : Hid (l3.length = cnt n.op) := hlen
    have hcz : (cnt n.op : Int) ≤ 3 := by omega
    clear hl3 hlen
    go_enter Try.func59, Try.ntmps59
    go_wp2_with (first | (go_at_call 93; refine (iCount _ _).mono ?_; rintro e w' ⟨rfl, rfl⟩) | (at_builtin; go_must (refine app_ints _ rfl _ _ rfl w.heap.size (.slice (some ⟨w.heap.size + 1 + 1, 0, none⟩) 0 0) [] l3 (w.heap.size + 1) 3 rfl (by rw [HLN.out]; rfl) (fun j h => by have h9 := HL3.out; subst h9; exact get3 _ _ _ _ _ _ _ hc3 (by simp) _ h _) (by rw [HLN.out]; omega) (ows_lit _ _ _ (by simp) (by omega)) (by simp; omega) (by rw [HLN.out]; simp; omega) ?_; intro g cp w3 ho3 hk3)))
    have HO3 : Hid (Ows w3 w.heap.size (.slice (some ⟨g, 0, none⟩) (([] : List Int).length + l3.length) cp) ([] ++ l3)) := ho3
    have HK3 := hk3.below (B := w.heap.size) (fun k hk => by cases hk; show w.heap.size ≤ w.heap.size + 1 + 1; omega) (by simp; omega)
    have HB3 : Hid (Below w.heap.size w w3) := ((((Below.refl _ _).alloc (Nat.le_refl _) _).alloc (by simp) _).alloc (by simp; omega) _).trans HK3
    clear ho3 hk3 HK3
    go_wp2
    go_ret
    obtain ⟨a9, c9, hv9, hw9⟩ := HO3.out.form
    simp only [List.nil_append, List.length_nil, Nat.zero_add] at hv9 hw9
    rw [HP.out, ← HL3.out]
    cases hv9
    refine ⟨⟨some ⟨g, 0, none⟩, cp, ?_, hw9⟩, HB3.out⟩
    simp

end Go.Proofs.Ytnkkigoeffghdaa.Pg2

/- Lists of sets of variables that are appended to, and made: the laws at the walk. -/
namespace Go.Proofs.Ytnkkigoeffghdaa.Ap12
open Go.RowKit
open Nd0
set_option linter.unusedVariables false

theorem infoV : (Try.prog.info? 71).map (fun i => (i.zero, i.size, i.bytes)) = some (some (.int .u8 0), 1, 1) := by kernel_rfl

/-- The slice v, in a block from B on, is the numbers l and may be appended to. -/
def Ov (w : World) (B : Nat) (v : Value) (l : List Int) : Prop := w.ownsRow B 71 1 v l.length (l.map fun x => .int .u8 x)

theorem Ov.form {w : World} {B : Nat} {v : Value} {l : List Int} (h : Ov w B v l) : ∃ a c, v = .slice a l.length c := by
  obtain ⟨h1, h2⟩ := h
  rcases h2 with ⟨rfl, h0⟩ | ⟨g, cap, cur, rfl, hb, hg, hn, hm, hs, ht⟩
  · have : l = [] := List.eq_nil_of_length_eq_zero h0
    subst this
    exact ⟨none, 0, rfl⟩
  · exact ⟨_, _, rfl⟩
theorem Ov.lit (w : World) (B : Nat) (hB : B ≤ w.heap.size) : Ov (w.alloc (.cells #[] 71)) B (.slice (some ⟨w.heap.size, 0, none⟩) 0 0) [] :=
  World.ownsRow_lit w #[] 0 hB (Nat.zero_le _) rfl
theorem Ov.lt {w : World} {B : Nat} {v : Value} {l : List Int} (h : Ov w B v l) : ∀ k, v.ownBlock = some k → B ≤ k ∧ k < w.heap.size := World.ownsRow.lt h
theorem Ov.kept {w w' : World} {B : Nat} {v : Value} {l : List Int} (h : Ov w B v l) {S : Nat → Prop} (k : Kept S w w') (hs : ∀ i, v.ownBlock = some i → ¬ S i) : Ov w' B v l := by
  refine ⟨h.1, ?_⟩
  rcases h.2 with hn | ⟨g, cap, cur, rfl, hb, hgg, rest⟩
  · exact .inl hn
  · refine .inr ⟨g, cap, cur, rfl, hb, ?_, rest⟩
    rw [k.block g (Array.getElem?_eq_some_iff.1 hgg).1 (hs g rfl)]
    exact hgg

/-- One number more. -/
theorem app_v {ops : Array Oper} {rest : List Oper} {o : Oper} {a : Act} {Q : Exit → Act → World → Prop} (W : World) (hgd : o.guard = none) (s x : Operand)
    (ho : o.op = .call { callee := .builtin .append, args := #[s, x], argTypes := #[108, 108] })
    (B : Nat) (v : Value) (l : List Int) (y : Int) (hs : a.eval s = v) (hx : a.eval x = .slice (some ⟨W.heap.size, 0, none⟩) 1 1)
    (hown : Ov W B v l) (hB : B ≤ W.heap.size) (hlen : l.length ≤ 1048576)
    (h : ∀ g cap w', Ov w' B (.slice (some ⟨g, 0, none⟩) (l.length + 1) cap) (l ++ [y]) → Kept (fun k => v.ownBlock = some k) W w' → (v.ownBlock = some g ∨ W.heap.size ≤ g) → wpList Try.prog ops Q rest (a.put o.dst (.slice (some ⟨g, 0, none⟩) (l.length + 1) cap)) w') :
    wpList Try.prog ops Q (o :: rest) a (W.alloc (.cells #[.int .u8 y] 71)) := by
  obtain ⟨i, hi, hzz⟩ := Option.map_eq_some_iff.1 infoV
  simp only [Prod.mk.injEq] at hzz
  obtain ⟨hz, hsz, hb⟩ := hzz
  refine wpList_append_lies (W.alloc (.cells #[.int .u8 y] 71)) hgd s x 108 ho B 71 i (.int .u8 0) 1 1 Try.underlying108 hi hz hsz hb rfl (by omega) v l.length (l.map fun x => .int .u8 x) hs (World.ownsRow.alloc hown _)
    ⟨W.heap.size, 0, none⟩ 1 1 [.int .u8 y] hx rfl ?_ ?_ (by omega) (by unfold maxLen; omega) (by omega) (by simp; omega) _ rfl ?_
  · intro j u hu
    exact World.news_of_block (heap_alloc_new W _) j u hu
  · intro u hu
    simp at hu
    subst hu
    rfl
  · intro g cap w' h1 h2 h3 h4
    refine h g cap w' ?_ ?_ ?_
    · unfold Ov
      simpa using h1
    · have k1 : Kept (fun k => v.ownBlock = some k) W (W.alloc (.cells #[.int .u8 y] 71)) := (Kept.refl _ W).alloc _
      exact k1.trans ⟨h2.os, h2.tape, h2.output, h2.size, fun k hk hn => h2.block k hk (fun e => hn e.symm)⟩
    · rcases h3 with h3 | h3
      · exact .inl h3
      · exact .inr (by rw [h3]; simp)

/-- n empty sets. -/
def noughts (n : Nat) : Array Value := madeCells #[.int .u8 0] (n * 1)
theorem noughts_get (n j : Nat) (h : j < n) : (noughts n)[j]? = some (.int .u8 0) := by
  simp only [noughts, madeCells, Array.getElem?_map, Array.getElem?_range]
  rw [if_pos (by omega)]
  simp only [Option.map_some, List.size_toArray, List.length_cons, List.length_nil, Nat.zero_add, Nat.mod_one]
  rfl
theorem makeVs (n : Nat) (hn : n ≤ 1048576) (w : World) :
    (Instr.makeSlice 108 (.int .i64 (n : Int)) (.int .i64 (n : Int))).run Try.prog w = .ok (.slice (some ⟨w.heap.size, 0, none⟩) n n) (w.alloc (.cells (noughts n) 71)) := by
  obtain ⟨i, hi, hzz⟩ := Option.map_eq_some_iff.1 infoV
  simp only [Prod.mk.injEq] at hzz
  obtain ⟨hz, hs, hb⟩ := hzz
  have h := run_make (P := Try.prog) w 108 71 i _ Try.underlying108 hi hz .i64 .i64 n n (by omega) (Int.le_refl _) (by rw [hb]; omega) (by omega)
  rw [hs] at h
  simpa [noughts, Value.cells] using h

end Go.Proofs.Ytnkkigoeffghdaa.Ap12
