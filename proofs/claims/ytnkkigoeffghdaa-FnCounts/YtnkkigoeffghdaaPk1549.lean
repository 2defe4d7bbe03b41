/- Small texts of mine, one behind the other. -/
import Derived.Test.YtnkkigoeffghdaaPk158
import Derived.Test.YtnkkigoeffghdaaPk1521
import Derived.Test.YtnkkigoeffghdaaPk1548
import Derived.Test.YtnkkigoeffghdaaPk1511
import Derived.Test.YtnkkigoeffghdaaPk1515
import Derived.Test.YtnkkigoeffghdaaAm5
import Derived.Test.YtnkkigoeffghdaaPk1522
/- Terms from terms, as plain data: each reached node counts once, no way is longer than there are nodes, a quantifier is one level more. -/
namespace Go.Proofs.Ytnkkigoeffghdaa.Aq3
open Nd0 Pl1 Tm0 Tm1 Tm2 Tm3 Tm4 Tm5 Tm7 Tm8 Tm12 Tm13 Tm14 Aq0
set_option linter.unusedVariables false

theorem op_range {l : List Nd} {i : Nat} (h : nodeOk l i = true) : 0 ≤ (nth l i).op ∧ (nth l i).op ≤ 20 := by
  simp only [nodeOk, Bool.and_eq_true] at h
  have hs := h.2
  unfold shapeOk at hs
  by_cases g : 0 ≤ (nth l i).op ∧ (nth l i).op ≤ 20
  · exact g
  · rw [if_neg (by omega), if_neg (by omega), if_neg (by omega), if_neg (by omega), if_neg (by omega), if_neg (by omega), if_neg (by omega), if_neg (by omega), if_neg (by omega)] at hs
    cases hs
theorem one_of (x : Int) : ∀ m : Nat, ((List.range m).map fun (k : Nat) => if x == (k : Int) then 1 else 0).sum = if 0 ≤ x ∧ x < (m : Int) then 1 else 0 := by
  intro m
  induction m with
  | zero => simp
  | succ m ih =>
    rw [List.range_succ, List.map_append, List.sum_append, ih]
    simp only [List.map_cons, List.map_nil, List.sum_cons, List.sum_nil, Nat.add_zero]
    by_cases e : x = (m : Int)
    · have e1 : (x == (m : Int)) = true := beq_iff_eq.2 e
      rw [e1]
      simp only [if_true]
      split <;> split <;> omega
    · have e1 : (x == (m : Int)) = false := beq_eq_false_iff_ne.2 e
      rw [e1]
      simp only [Bool.false_eq_true, if_false]
      split <;> split <;> omega
theorem sum_add (f g : Nat → Nat) : ∀ l : List Nat, (l.map fun k => f k + g k).sum = (l.map f).sum + (l.map g).sum := by
  intro l
  induction l with
  | nil => rfl
  | cons a l ih => simp only [List.map_cons, List.sum_cons, ih]; omega
theorem counts_all : ∀ p : List Nd, (∀ n ∈ p, 0 ≤ n.op ∧ n.op ≤ 20) → ((List.range 21).map fun (k : Nat) => p.countP fun n => n.op == (k : Int)).sum = p.length := by
  intro p
  induction p with
  | nil => intro _; rfl
  | cons x p ih =>
    intro h
    have hx := h x (by simp)
    have e : (fun (k : Nat) => (x :: p).countP fun n => n.op == (k : Int)) = fun (k : Nat) => (p.countP fun n => n.op == (k : Int)) + (if x.op == (k : Int) then 1 else 0) := by
      funext k
      rw [List.countP_cons]
    rw [e, sum_add, ih (fun n hn => h n (by simp [hn])), one_of, if_pos (by omega)]
    rfl
/-- The sum of what CountOp tells of the first m operators. -/
def sumTo (l : List Nd) (m : Nat) : Nat := ((List.range m).map fun (k : Nat) => cntTo (pruneL l) (k : Int) (pruneL l).length).sum
theorem sumTo_succ (l : List Nd) (m : Nat) : ((sumTo l (m + 1) : Nat) : Int) = (sumTo l m : Int) + cntL l (m : Int) := by
  unfold sumTo cntL
  rw [List.range_succ, List.map_append, List.sum_append]
  simp
theorem sum_all (l : List Nd) : sumTo l 21 = (reachedL l).length := by
  cases hT : termOk l
  · have e1 : pruneL l = [] := by unfold pruneL; rw [hT]; rfl
    have e2 : reachedL l = [] := by unfold reachedL; rw [hT]; rfl
    unfold sumTo
    rw [e1, e2]; rfl
  · rw [reached_len hT]
    have h9 := counts_all (pruneL l) (fun n hn => by
      obtain ⟨i, hi, rfl⟩ := List.getElem_of_mem hn
      rw [nth_get hi]
      exact op_range (term_node (prune_term hT) hi))
    unfold sumTo cntTo
    rw [List.take_length]
    exact h9
theorem sum_le (l : List Nd) : ∀ m, m ≤ 21 → sumTo l m ≤ (reachedL l).length := by
  have h : ∀ d m, m + d = 21 → sumTo l m ≤ sumTo l 21 := by
    intro d
    induction d with
    | zero => intro m hm; have : m = 21 := by omega
              subst this; exact Nat.le_refl _
    | succ d ih =>
      intro m hm
      refine Nat.le_trans ?_ (ih (m + 1) (by omega))
      have := sumTo_succ l m
      have h0 : 0 ≤ cntL l (m : Int) := by unfold cntL; omega
      omega
  intro m hm
  rw [← sum_all l]
  exact h (21 - m) m (by omega)

/-- The level of a reached node is no more than the reached nodes up to it. -/
theorem lev_reached {l : List Nd} (hD : Down l) : ∀ i, i < l.length → flag (reachL l) i = true → (levTo l l.length).getD i 0 ≤ ((reachTo l (i + 1)).length : Int) := by
  intro i
  induction i using Nat.strongRecOn with
  | ind i ih =>
    intro hi hf
    have e : (levTo l l.length).getD i 0 = most ((parts (nth l i)).map fun p => (levTo l l.length).getD p.toNat 0) + 1 := wk_at 0 levF hD hi hi
    have hs : (reachTo l (i + 1)).length = (reachTo l i).length + 1 := by rw [reachTo_succ, hf]; simp
    have hb := (most_bound (m := ((reachTo l i).length : Int)) (by omega) ((parts (nth l i)).map fun p => (levTo l l.length).getD p.toNat 0) (fun x hx => by
      obtain ⟨p, hp, rfl⟩ := List.mem_map.1 hx
      have hd := hD i hi p hp
      have h1 := ih p.toNat (by omega) (by omega) (reach_closed hD hi hf hp)
      have h2 := reachTo_mono l (a := p.toNat + 1) (b := i) (by omega)
      omega)).2
    rw [e, hs]
    omega
theorem level_le (l : List Nd) : levelL l ≤ ((reachedL l).length : Int) := by
  unfold levelL
  cases hT : termOk l
  · simp
  · obtain ⟨h1, h2⟩ := term_len hT
    have h := lev_reached (down_of hT) (l.length - 1) (by omega) (reach_root h1)
    have e : l.length - 1 + 1 = l.length := by omega
    rw [e] at h
    have er : reachedL l = reachTo l l.length := by unfold reachedL; rw [hT]; rfl
    rw [er]
    exact h
theorem lev_app (l m : List Nd) : ∀ k, k ≤ l.length → levTo (l ++ m) k = levTo l k := by
  intro k
  induction k with
  | zero => intro _; rfl
  | succ k ih =>
    intro hk
    have e : nth (l ++ m) k = nth l k := by
      unfold nth
      rw [List.getD_eq_getElem?_getD, List.getElem?_append_left (by omega), ← List.getD_eq_getElem?_getD]
    show levTo (l ++ m) k ++ [_] = levTo l k ++ [_]
    have h9 := ih (by omega)
    rw [h9, e]
    unfold levTo at h9 ⊢
    rw [h9]
/-- A quantifier is one level more. -/
theorem level_quant {l : List Nd} {al : Bool} {v u : Int} (hT : termOk l = true) (hT2 : termOk (l ++ [quN l al v u]) = true) : levelL (l ++ [quN l al v u]) = levelL l + 1 := by
  obtain ⟨h1, h2⟩ := term_len hT
  unfold levelL
  rw [hT, hT2]
  have el : (l ++ [quN l al v u]).length = l.length + 1 := by simp
  rw [el]
  simp only [if_true]
  have en : nth (l ++ [quN l al v u]) l.length = quN l al v u := nth_app_last _ _
  have ep : parts (quN l al v u) = [(l.length : Int) - 1] := parts_one (by unfold quN; dsimp only; cases al <;> simp)
  have ew : (levTo (l ++ [quN l al v u]) (l.length + 1)).getD (l.length + 1 - 1) 0 = levF l.length (nth (l ++ [quN l al v u]) l.length) ((parts (nth (l ++ [quN l al v u]) l.length)).map fun p => (levTo (l ++ [quN l al v u]) l.length).getD p.toNat 0) := wk_new 0 levF _ _
  rw [ew, en, ep, lev_app _ _ _ (Nat.le_refl _)]
  have e3 : ((l.length : Int) - 1).toNat = l.length - 1 := by omega
  simp only [List.map_cons, List.map_nil, e3]
  unfold levF most mx
  have hl := (lev_at l (i := l.length - 1) (k := l.length) (by omega)).1
  simp only [List.foldl_cons, List.foldl_nil]
  rw [if_pos (by omega)]

end Go.Proofs.Ytnkkigoeffghdaa.Aq3

/- The walk of the law FnCounts. -/
namespace Go.Proofs.Ytnkkigoeffghdaa.Lcn1
open Go.RowKit
open Nd0 Nd3 Tm0 Tm2 Tm3 Dw0 Dw5 Dw8 Lw4 Aq0 Aq3
open Dr0 (Cur Only Bytes Off)
open Dr1 (once below)
open Lx1 (ITermOk)
open Lx2 (IReached)
open Lx4 (IPrune)
open Am3 (sLevel sCountOp)
open Am5 (sQuantify)
open Pb2 (iLevel iCountOp)
open Pb3 (iQuantify)
open Ws1 (ret_int ret_bool)
set_option linter.unusedVariables false

/-- A byte of the code: the same whenever it is asked. -/
theorem lat2 (w : World) (a : Option Addr) (len cap : Nat) (i : Int) (h0 : 0 ≤ i) (hk : i ≤ 1000) (hb : Bytes w a len) (hs : len ≤ 1048576) :
    ∃ x : Int, 0 ≤ x ∧ x ≤ 255 ∧ ∀ W : World, Below w.heap.size w W → Calls Try.prog 20 #[.slice a len cap, .int .i64 i] W fun e w' => e = .returned (.int .i64 x) ∧ w' = W := by
  obtain ⟨k, rfl⟩ := Int.eq_ofNat_of_zero_le h0
  by_cases hlt : k < len
  · rcases hb.2 with h0 | ⟨xb, xo, rfl, hcell⟩
    · omega
    obtain ⟨v, hv0, hv1, hv⟩ := hcell k hlt
    refine ⟨v, by omega, by omega, fun W hW => ?_⟩
    have hv2 : W.cell? ⟨xb, xo + k, none⟩ = some (.int .u8 v) := (hW.cell (p := ⟨xb, xo + k, none⟩) (lt_of_cell hv)).trans hv
    clear hcell hb hW hv
    go_enter Try.func20, Try.ntmps20
    go_wp2
    go_ret
    exact ⟨ret_int (by omega), rfl⟩
  · refine ⟨((k : Int) * 7 + (len : Int)) % 256, by omega, by omega, fun W hW => ?_⟩
    clear hb hW
    go_enter Try.func20, Try.ntmps20
    go_wp2
    go_ret
    exact ⟨rfl, rfl⟩

/-- Some list of nodes that was drawn, and a number beside it. -/
def CPost (w : World) (e : Ending) (w' : World) : Prop :=
  ∃ (g c : Nat) (L : List Nd) (x : Int), e = .returned (.tuple #[.slice (some ⟨g, 0, none⟩) L.length c, .int .i64 x]) ∧ Nodes w' (some ⟨g, 0, none⟩) L ∧ Below w.heap.size w w' ∧ 1 ≤ L.length ∧ L.length ≤ 81 ∧ L.length ≤ c

set_option maxHeartbeats 1000000 in
theorem drawCountOp (w : World) (a : Option Addr) (len cap : Nat) (hb : Bytes w a len) :
    Calls Try.prog 14 #[.slice a len cap] w (CPost w) := by
  have HB : Hid (Bytes w a len) := hb
  clear hb
  go_enter Try.func14, Try.ntmps14
  go_wp2_with fail
  refine (Dr4.new _ a len cap HB.out).mono ?_
  rintro e w1 ⟨rfl, hc, hb1⟩
  have HC : Hid (Cur w1 w.heap.size a len cap) := hc
  have HB1 : Hid (Below w.heap.size w w1) := hb1
  clear hc hb1
  go_wp2_with fail
  refine (openNodes _ w.heap.size a len cap HC.out (low_of HB.out)).mono ?_
  rintro e w2 ⟨g, c, L, rfl, hn, hbg, hgs, hcu, hk, h1, h2, h3⟩
  have HN2 : Hid (Nodes w2 (some ⟨g, 0, none⟩) L) := hn
  have HC2 : Hid (Cur w2 w.heap.size a len cap) := hcu
  have HBG : Hid (w.heap.size < g) := hbg
  have HB2 : Hid (Below w.heap.size w w2) := HB1.out.trans (hk.below (fun k (e : k = w.heap.size) => by omega) HB1.out.size)
  clear hn hcu hk hgs hbg
  go_wp2_with fail
  refine (below _ w.heap.size a len cap 22 (by omega) (by omega) HC2.out).mono ?_
  rintro e w3 ⟨⟨x, rfl, hx0, hx1⟩, hc3, ho3⟩
  have HN3 : Hid (Nodes w3 (some ⟨g, 0, none⟩) L) := HN2.out.kept (only_kept ho3) (fun y hy => by cases hy; have := HBG.out; show ¬ g = w.heap.size; omega)
  have HB3 : Hid (Below w.heap.size w w3) := HB2.out.trans ((only_kept ho3).below (fun k (e : k = w.heap.size) => by omega) HB2.out.size)
  clear hc3 ho3
  go_wp2
  go_ret2
  exact ⟨g, c, L, _, rfl, HN3.out, HB3.out, h1, h2, h3⟩

set_option maxRecDepth 100000 in
set_option maxHeartbeats 8000000 in
theorem lawCounts (hTO : ITermOk) (hRE : IReached) (hPR : IPrune) (w : World) (a : Option Addr) (len cap : Nat) (hb : Bytes w a len) :
    Calls Try.prog 3 #[.slice a len cap] w fun e w' => e = .returned (.bool true) ∧ Below w.heap.size w w' := by
  have HB : Hid (Bytes w a len) := hb
  have HTO : Hid ITermOk := hTO
  have HRE : Hid IReached := hRE
  have HPR : Hid IPrune := hPR
  clear hTO hRE hPR
  by_cases hs : 1048576 < len
  · clear hb
    go_enter Try.func3, Try.ntmps3
    go_wp2_with fail
    refine (lbig _ a len cap true (by simp; omega)).mono ?_
    rintro e w' ⟨rfl, rfl⟩
    go_wp2
    go_ret
    exact ⟨rfl, Below.refl _ _⟩
  have hsl : len ≤ 1048576 := by omega
  obtain ⟨x, hx0, hx1, hxc⟩ := lat2 w a len cap 3 (by omega) (by omega) hb hsl
  obtain ⟨y, hy0, hy1, hyc⟩ := lat2 w a len cap 4 (by omega) (by omega) hb hsl
  obtain ⟨z, hz0, hz1, hzc⟩ := lat2 w a len cap 5 (by omega) (by omega) hb hsl
  have HXC : Hid (∀ W : World, Below w.heap.size w W → Calls Try.prog 20 #[.slice a len cap, .int .i64 3] W fun e w' => e = .returned (.int .i64 x) ∧ w' = W) := hxc
  have HYC : Hid (∀ W : World, Below w.heap.size w W → Calls Try.prog 20 #[.slice a len cap, .int .i64 4] W fun e w' => e = .returned (.int .i64 y) ∧ w' = W) := hyc
  have HZC : Hid (∀ W : World, Below w.heap.size w W → Calls Try.prog 20 #[.slice a len cap, .int .i64 5] W fun e w' => e = .returned (.int .i64 z) ∧ w' = W) := hzc
  clear hb hxc hyc hzc
  go_enter Try.func3, Try.ntmps3
  go_wp2_with fail
  refine (lbig _ a len cap false (by simp; omega)).mono ?_
  rintro e w0 ⟨rfl, hz⟩
  have hz' := hz.symm
  clear hz
  subst hz'
  go_wp2_with fail
  refine (drawCountOp _ a len cap HB.out).mono ?_
  rintro e w1 ⟨g, c, L, op, rfl, hn, hb1, hl1, hl2, hcL⟩
  have HCL : Hid (L.length ≤ c) := hcL
  have HN1 : Hid (Nodes w1 (some ⟨g, 0, none⟩) L) := hn
  have HB1 : Hid (Below w.heap.size w w1) := hb1
  clear hn hb1 hcL
  go_wp2_with fail
  refine (iCountOp HPR.out _ _ L c op HN1.out HCL.out (by omega)).mono ?_
  rintro e w2 ⟨rfl, hb2⟩
  have HN2 : Hid (Nodes w2 (some ⟨g, 0, none⟩) L) := HN1.out.below hb2
  have HB2 : Hid (Below w.heap.size w w2) := HB1.out.trans (hb2.mono HB1.out.size)
  clear hb2 HN1 HB1
  go_wp2_with fail
  refine (sCountOp _ _ L c op HN2.out).mono ?_
  rintro e w3 ⟨rfl, hb3⟩
  have HN3 : Hid (Nodes w3 (some ⟨g, 0, none⟩) L) := HN2.out.below hb3
  have HB3 : Hid (Below w.heap.size w w3) := HB2.out.trans (hb3.mono HB2.out.size)
  clear hb3 HN2 HB2
  have hcc : (cntL L op != cntL L op) = false := by simp
  have hll : (levelL L != levelL L) = false := by simp
  go_wp2_with fail
  refine (iLevel HTO.out _ _ L c HN3.out HCL.out (by omega)).mono ?_
  rintro e w4 ⟨rfl, hb4⟩
  have HN4 : Hid (Nodes w4 (some ⟨g, 0, none⟩) L) := HN3.out.below hb4
  have HB4 : Hid (Below w.heap.size w w4) := HB3.out.trans (hb4.mono HB3.out.size)
  clear hb4 HN3 HB3
  go_wp2_with fail
  refine (sLevel _ _ L c HN4.out).mono ?_
  rintro e w5 ⟨rfl, hb5⟩
  have HN5 : Hid (Nodes w5 (some ⟨g, 0, none⟩) L) := HN4.out.below hb5
  have HB5 : Hid (Below w.heap.size w w5) := HB4.out.trans (hb5.mono HB4.out.size)
  clear hb5 HN4 HB4
  have hrl : (reachedL L).length ≤ 81 := Nat.le_trans (reachedL_le L) hl2
  go_wp2_with fail
  go_loopw [5, 6] (fun v q wr => ∃ k : Nat, k ≤ 21 ∧ q = .int .i64 k ∧ v = .int .i64 (sumTo L k : Int) ∧ Nodes wr (some ⟨g, 0, none⟩) L ∧ Below w.heap.size w wr) (fun _ q _ => 21 - (intOf q).toNat)
  case atStart => exact ⟨0, by omega, rfl, rfl, HN5.out, HB5.out⟩
  case round =>
    clear HN5 HB5
    obtain ⟨k, hk, rfl, rfl, hn, hb⟩ := hrel
    have HN : Hid (Nodes wr (some ⟨g, 0, none⟩) L) := hn
    have HBR : Hid (Below w.heap.size w wr) := hb
    clear hn hb
    by_cases hlt : k < 21
    · have hkz : (k : Int) ≤ 20 := by omega
      have hsum := sum_le L k hk
      have HSC : Hid (((sumTo L (k + 1) : Nat) : Int) = (sumTo L k : Int) + cntL L (k : Int)) := sumTo_succ L k
      have hcn : 0 ≤ cntL L (k : Int) ∧ cntL L (k : Int) ≤ 81 := by
        have h1 := sum_le L (k + 1) (by omega)
        have h2 := sumTo_succ L k
        unfold cntL at *
        omega
      go_wp2_with fail
      refine (iCountOp HPR.out _ _ L c (k : Int) HN.out HCL.out (by omega)).mono ?_
      rintro e w6 ⟨rfl, hb6⟩
      have HN6 : Hid (Nodes w6 (some ⟨g, 0, none⟩) L) := HN.out.below hb6
      have HB6 : Hid (Below w.heap.size w w6) := HBR.out.trans (hb6.mono HBR.out.size)
      clear hb6
      generalize cntL L (k : Int) = cc at hcn HSC ⊢
      generalize sumTo L k = ss at hsum HSC ⊢
      go_wp2
      go_roundw
      case rel => exact ⟨k + 1, by omega, by go_num, by rw [HSC.out], HN6.out, HB6.out⟩
      case measure => simp [intOf]; omega
    · have ek : k = 21 := by omega
      subst ek
      rw [sum_all]
      have HLE : Hid (levelL L ≤ ((reachedL L).length : Int)) := level_le L
      have hx2 : 0 ≤ x % 2 := by omega
      have hx3 : x % 2 ≤ 1 := by omega
      have hy2 : 0 ≤ y % 8 := by omega
      have hy3 : y % 8 ≤ 7 := by omega
      have hz2 : 0 ≤ z % 8 := by omega
      have hz3 : z % 8 ≤ 7 := by omega
      go_wp2_with fail
      refine (HXC.out _ HBR.out).mono ?_
      rintro e w' ⟨rfl, hq⟩
      have hq' := hq.symm
      clear hq
      subst hq'
      go_wp2_with fail
      refine (HYC.out _ HBR.out).mono ?_
      rintro e w' ⟨rfl, hq⟩
      have hq' := hq.symm
      clear hq
      subst hq'
      go_wp2_with fail
      refine (HZC.out _ HBR.out).mono ?_
      rintro e w' ⟨rfl, hq⟩
      have hq' := hq.symm
      clear hq
      subst hq'
      go_wp2_with fail
      obtain ⟨al, hal⟩ : ∃ al : Bool, al = (x % 2 == 0) := ⟨_, rfl⟩
      obtain ⟨v, hv⟩ : ∃ v : Int, v = y % 8 := ⟨_, rfl⟩
      obtain ⟨u, hu⟩ : ∃ u : Int, u = 1 + z % 8 := ⟨_, rfl⟩
      have HAL : Hid (al = (x % 2 == 0) ∧ v = y % 8 ∧ u = 1 + z % 8) := ⟨hal, hv, hu⟩
      rw [← hal, ← hv, ← hu]
      clear hal hv hu
      refine (iQuantify HTO.out wr g 0 L c al v u HN.out (by omega)).mono ?_
      rintro e w7 ⟨⟨a7, c7, rfl, hw7, hc7⟩, hb7⟩
      have HN7 : Hid (Nodes w7 (some ⟨g, 0, none⟩) L) := HN.out.below hb7
      have HB7 : Hid (Below w.heap.size w w7) := HBR.out.trans (hb7.mono HBR.out.size)
      have HQ7 : Hid (Nodes w7 a7 (behL L (quN L al v u))) := hw7.nodes
      have HC7 : Hid ((behL L (quN L al v u)).length ≤ c7) := hc7
      clear hw7 hb7 hc7 HN HBR
      go_wp2_with fail
      refine (HXC.out _ HB7.out).mono ?_
      rintro e w' ⟨rfl, hq⟩
      have hq' := hq.symm
      clear hq
      subst hq'
      go_wp2_with fail
      refine (HYC.out _ HB7.out).mono ?_
      rintro e w' ⟨rfl, hq⟩
      have hq' := hq.symm
      clear hq
      subst hq'
      go_wp2_with fail
      refine (HZC.out _ HB7.out).mono ?_
      rintro e w' ⟨rfl, hq⟩
      have hq' := hq.symm
      clear hq
      subst hq'
      go_wp2_with fail
      rw [← HAL.out.1, ← HAL.out.2.1, ← HAL.out.2.2]
      refine (sQuantify w7 _ L c al v u HN7.out (by omega)).mono ?_
      rintro e w8 ⟨⟨a8, c8, rfl, -⟩, hb8⟩
      have HN8 : Hid (Nodes w8 (some ⟨g, 0, none⟩) L) := HN7.out.below hb8
      have HB8 : Hid (Below w.heap.size w w8) := HB7.out.trans (hb8.mono HB7.out.size)
      have HQ8 : Hid (Nodes w8 a7 (behL L (quN L al v u))) := HQ7.out.below hb8
      clear hb8 HN7 HB7 HQ7
      go_wp2_with fail
      refine (HRE.out _ _ L c HN8.out HCL.out (by omega)).mono ?_
      rintro e w9 ⟨⟨a9, c9, rfl, -⟩, hb9⟩
      have HN9 : Hid (Nodes w9 (some ⟨g, 0, none⟩) L) := HN8.out.below hb9
      have HB9 : Hid (Below w.heap.size w w9) := HB8.out.trans (hb9.mono HB8.out.size)
      have HQ9 : Hid (Nodes w9 a7 (behL L (quN L al v u))) := HQ8.out.below hb9
      clear hb9 HN8 HB8 HQ8
      have hss : (((reachedL L).length : Int) == ((reachedL L).length : Int)) = true := by simp
      go_wp2_with fail
      refine (iLevel HTO.out _ _ L c HN9.out HCL.out (by omega)).mono ?_
      rintro e w10 ⟨rfl, hb10⟩
      have HN10 : Hid (Nodes w10 (some ⟨g, 0, none⟩) L) := HN9.out.below hb10
      have HB10 : Hid (Below w.heap.size w w10) := HB9.out.trans (hb10.mono HB9.out.size)
      have HQ10 : Hid (Nodes w10 a7 (behL L (quN L al v u))) := HQ9.out.below hb10
      clear hb10 HN9 HB9 HQ9
      have hle : levelL L ≤ ((reachedL L).length : Int) := HLE.out
      have hbb : (behB L (quN L al v u) == behB L (quN L al v u)) = true := by simp
      cases hok : behB L (quN L al v u)
      · go_wp2
        go_ret
        exact ⟨rfl, HB10.out⟩
      · have HTT : Hid (termOk L = true ∧ termOk (L ++ [quN L al v u]) = true) := by
          unfold behB at hok
          simp only [Bool.and_eq_true] at hok
          exact hok
        have HBL : Hid (behL L (quN L al v u) = L ++ [quN L al v u]) := by show _ = _; unfold behL; rw [hok]; rfl
        have HLQ : Hid (levelL (behL L (quN L al v u)) = levelL L + 1) := by show _ = _; rw [HBL.out]; exact level_quant HTT.out.1 HTT.out.2
        have hl81 : (behL L (quN L al v u)).length ≤ 1048576 := Nat.le_trans (behL_le L _) (by omega)
        clear hok hbb
        go_wp2_with fail
        refine (iLevel HTO.out _ _ (behL L (quN L al v u)) c7 HQ10.out HC7.out hl81).mono ?_
        rintro e w11 ⟨rfl, hb11⟩
        have HN11 : Hid (Nodes w11 (some ⟨g, 0, none⟩) L) := HN10.out.below hb11
        have HB11 : Hid (Below w.heap.size w w11) := HB10.out.trans (hb11.mono HB10.out.size)
        clear hb11 HN10 HB10
        rw [HLQ.out]
        go_wp2_with fail
        refine (iLevel HTO.out _ _ L c HN11.out HCL.out (by omega)).mono ?_
        rintro e w12 ⟨rfl, hb12⟩
        have HB12 : Hid (Below w.heap.size w w12) := HB11.out.trans (hb12.mono HB11.out.size)
        clear hb12 HN11 HB11
        have hl0 : 0 ≤ levelL L := by
          unfold levelL
          split
          · by_cases e : L.length - 1 < L.length
            · have := (lev_at L (i := L.length - 1) (k := L.length) e).1; omega
            · omega
          · omega
        have h9 : (levelL L + 1 == levelL L + 1) = true := by simp
        go_wp2
        go_ret
        exact ⟨rfl, HB12.out⟩

end Go.Proofs.Ytnkkigoeffghdaa.Lcn1
