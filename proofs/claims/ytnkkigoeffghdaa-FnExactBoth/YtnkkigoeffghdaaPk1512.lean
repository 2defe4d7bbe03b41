/- Small texts of mine, one behind the other. -/
import Derived.WalkSpells
import Derived.Test.YtnkkigoeffghdaaPk1510
import Derived.Test.YtnkkigoeffghdaaPk1511
import Derived.Test.YtnkkigoeffghdaaPk158
import Derived.Test.YtnkkigoeffghdaaPk157
import Derived.Test.YtnkkigoeffghdaaPk156
import Derived.Test.YtnkkigoeffghdaaPk151
/- The program's walk over a term, for whole numbers. -/
namespace Go.Proofs.Ytnkkigoeffghdaa.Aw1
open Go.RowKit
open Nd0 Pl1 Tm0 Tm1 Tm8 Ap0 Pg1 Pg2 Rw0 Aq0
open Pg11 (makeInts noughts noughts_get)
set_option linter.unusedVariables false

abbrev nv (n : Nd) : Value := .agg #[.int .i64 n.op, .int .i64 n.w, .int .i64 n.k, .int .i64 n.a, .int .i64 n.b, .int .i64 n.c]
/-- What a walk's closure tells of node i, in every world that comes of w0, given what was said of the node's parts. -/
def TellI (w0 : World) (k : Nat) (cap : Array Value) (l : List Nd) (F : Nat → Nd → List Int → Int) : Prop :=
  ∀ (W : World) (i : Nat) (a : Option Addr) (c : Nat), i < l.length → Below w0.heap.size w0 W → Ints W a (said 0 F l i) →
    Calls Try.prog k (#[.int .i64 (i : Int), nv (nth l i), .slice a (said 0 F l i).length c] ++ cap) W fun e w' => e = .returned (.int .i64 (F i (nth l i) (said 0 F l i))) ∧ Below W.heap.size W w'

set_option maxRecDepth 100000 in
set_option maxHeartbeats 4000000 in
theorem wInt (k : Nat) (cap : Array Value) (F : Nat → Nd → List Int → Int) (w : World) (a : Option Addr) (l : List Nd) (c : Nat) (hN : Nodes w a l) (hD : Down l) (hl : l.length ≤ 1048576)
    (hk : ∀ args w, (callFunc k args).run Try.prog w = .ok (.enter k args) w) (hT : TellI w k cap l F) :
    Calls Try.prog 46 #[.slice a l.length c, .func (.func k) #[] cap] w fun e w' => (∃ a', e = .returned (.slice a' l.length l.length) ∧ WInts w' w.heap.size a' (wk 0 F l l.length)) ∧ Below w.heap.size w w' := by
  have HN : Hid (Nodes w a l) := hN
  have HD : Hid (Down l) := hD
  have HT : Hid (TellI w k cap l F) := hT
  clear hN hD hT
  have hmk := makeInts l.length hl w
  obtain ⟨g, hg⟩ : ∃ g : Nat, g = w.heap.size := ⟨_, rfl⟩
  have HG : Hid (g = w.heap.size) := hg
  have HR0 : Hid (Row (w.alloc (.cells (noughts l.length) 3)) g l.length (fun i => .int .i64 ((wk 0 F l 0).getD i 0))) := by
    rw [hg]
    exact Row.new _ _ _ _ _ (fun i hi => noughts_get _ _ hi)
  have HB0 : Hid (Below w.heap.size w (w.alloc (.cells (noughts l.length) 3))) := (Below.refl _ _).alloc (Nat.le_refl _) _
  go_enter Try.func46, Try.ntmps46
  go_wp2_with fail
  clear hmk
  rw [← hg]
  clear hg
  generalize w.alloc (.cells (noughts l.length) 3) = wa at HR0 HB0 ⊢
  go_loopw [16] (fun q wr => ∃ j : Nat, j ≤ l.length ∧ q = .int .i64 j ∧ Row wr g l.length (fun i => .int .i64 ((wk 0 F l j).getD i 0)) ∧ Below w.heap.size w wr) (fun q _ => l.length - (intOf q).toNat)
  case atStart => exact ⟨0, Nat.zero_le _, rfl, HR0.out, HB0.out⟩
  case round =>
    clear HR0 HB0
    obtain ⟨j, hj, rfl, hr, hb⟩ := hrel
    obtain ⟨wb, rfl⟩ : ∃ wb : World, wb = wr := ⟨_, rfl⟩
    have HR : Hid (Row wb g l.length (fun i => .int .i64 ((wk 0 F l j).getD i 0))) := hr
    have HB : Hid (Below w.heap.size w wb) := hb
    have hBs : w.heap.size ≤ wb.heap.size := hb.size
    clear hr hb
    by_cases hlt : j < l.length
    · have hlz : (j : Int) < (l.length : Int) := by omega
      rcases (HN.out.below HB.out).2 with h0 | ⟨xb, xo, rfl, hc⟩
      · omega
      obtain ⟨p0, p1, p2, p3, p4, p5⟩ := hc j hlt
      rw [nth_get hlt] at p0 p1 p2 p3 p4 p5
      clear hc
      have HDJ : Hid (∀ p ∈ parts (nth l j), 0 ≤ p ∧ p < (j : Int)) := HD.out j hlt
      have HSA : Hid (said 0 F l j = (parts (nth l j)).map fun p => (wk 0 F l j).getD p.toNat 0) := rfl
      have HTJ : Hid (∀ (W : World) (a : Option Addr) (c : Nat), Below w.heap.size w W → Ints W a (said 0 F l j) →
        Calls Try.prog k (#[.int .i64 (j : Int), nv (nth l j), .slice a (said 0 F l j).length c] ++ cap) W fun e w' => e = .returned (.int .i64 (F j (nth l j) (said 0 F l j))) ∧ Below W.heap.size W w') := fun W a c h1 h2 => HT.out W j a c hlt h1 h2
      have HWK : Hid (∀ i, (wk 0 F l (j + 1)).getD i 0 = if i = j then F j (nth l j) (said 0 F l j) else (wk 0 F l j).getD i 0) := fun i => wk_set 0 F l j i
      generalize hn : nth l j = n at p0 p1 p2 p3 p4 p5 HDJ HSA HTJ HWK
      clear hn
      generalize F j n (said 0 F l j) = y at HTJ HWK
      generalize said 0 F l j = sd at HSA HTJ
      have hX : ∃ X : Nat → Int, X = fun i => (wk 0 F l j).getD i 0 := ⟨_, rfl⟩
      obtain ⟨X, hX⟩ := hX
      have HRX : Hid (Row wb g l.length (fun i => .int .i64 (X i))) := by rw [hX]; exact HR.out
      have HSX : Hid (sd = (parts n).map fun p => X p.toNat) := by show _ = _; rw [hX]; exact HSA.out
      have HWX : Hid (∀ i, (wk 0 F l (j + 1)).getD i 0 = if i = j then y else X i) := by rw [hX]; exact HWK.out
      clear hX HSA HWK HR
      have hgl : g < wb.heap.size := HRX.out.lt (by omega)
      obtain ⟨W1, hW1⟩ : ∃ W1 : World, W1 = wb.alloc (.cells #[.int .i64 n.op, .int .i64 n.w, .int .i64 n.k, .int .i64 n.a, .int .i64 n.b, .int .i64 n.c] 55) := ⟨_, rfl⟩
      have hs1 : W1.heap.size = wb.heap.size + 1 := by rw [hW1]; simp
      have HB1 : Hid (Below wb.heap.size wb W1) := by rw [hW1]; exact (Below.refl _ _).alloc (Nat.le_refl _) _
      have HNB : Hid (NodeAt W1 wb.heap.size 0 n) := by rw [hW1]; exact ⟨by simp, by simp, by simp, by simp, by simp, by simp⟩
      obtain ⟨W2, hW2⟩ : ∃ W2 : World, W2 = W1.alloc (.cells #[] 3) := ⟨_, rfl⟩
      have hs2 : W2.heap.size = wb.heap.size + 2 := by rw [hW2]; simp [hs1]
      have HB2 : Hid (Below W1.heap.size W1 W2) := by rw [hW2]; exact (Below.refl _ _).alloc (Nat.le_refl _) _
      have HO2 : Hid (Ows W2 W1.heap.size (.slice (some ⟨wb.heap.size + 1, 0, none⟩) 0 0) []) := by rw [← hs1, hW2]; exact Ows.lit W1 _ (Nat.le_refl _)
      go_wp2_with fail
      rw [← hW1, ← hW2]
      refine (iParts n W2).mono ?_
      rintro e W3 ⟨⟨pa, pc, rfl, hpi⟩, hb3⟩
      have hs3 := hb3.size
      have HP3 : Hid (IntsIn W3 W2.heap.size W3.heap.size pa (parts n)) := hpi.within
      have HO3 : Hid (Ows W3 W1.heap.size (.slice (some ⟨wb.heap.size + 1, 0, none⟩) 0 0) []) := HO2.out.kept (S := fun _ => False) (Kept.ofBelow hb3) (fun _ _ h => h)
      have HB3 : Hid (Below W1.heap.size W1 W3) := HB2.out.trans (hb3.mono (by omega))
      have hpl := parts_le n
      clear hpi hb3 HB2 HO2 hW1 hW2 p0 p1 p2 p3 p4 p5
      go_wp2_with fail
      go_loopw [8, 25] (fun v q wq => ∃ m : Nat, m ≤ (parts n).length ∧ q = .int .i64 m ∧ Ows wq W1.heap.size v (((parts n).take m).map fun p => X p.toNat) ∧ Below W1.heap.size W1 wq ∧ IntsIn wq W2.heap.size W3.heap.size pa (parts n) ∧ W3.heap.size ≤ wq.heap.size ∧ ∀ x, v.ownBlock = some x → x < W2.heap.size ∨ W3.heap.size ≤ x) (fun _ q _ => (parts n).length - (intOf q).toNat)
      case atStart => exact ⟨0, Nat.zero_le _, rfl, HO3.out, HB3.out, HP3.out, Nat.le_refl _, fun x hx => by cases hx; exact .inl (by simp; omega)⟩
      case round =>
        clear HO3 HB3 HP3
        obtain ⟨m, hm, rfl, ho, hb, hi, hsz, hne⟩ := hrel
        have HBQ : Hid (Below W1.heap.size W1 wr) := hb
        have HIQ : Hid (IntsIn wr W2.heap.size W3.heap.size pa (parts n)) := hi
        have HRQ : Hid (Row wr g l.length (fun i => .int .i64 (X i))) := (HRX.out.below HB1.out).below hb
        have HBW : Hid (Below w.heap.size w wr) := (HB.out.trans (HB1.out.mono hBs)).trans (hb.mono (by omega))
        have hB1 : W1.heap.size ≤ wr.heap.size := hb.size
        clear hb hi
        obtain ⟨ao, co, rfl, hwn⟩ := ho.form
        have HO : Hid (Ows wr W1.heap.size (.slice ao (((parts n).take m).map fun p => X p.toNat).length co) (((parts n).take m).map fun p => X p.toNat)) := ho
        have HNE : Hid (∀ x, (Value.slice ao (((parts n).take m).map fun p => X p.toNat).length co).ownBlock = some x → x < W2.heap.size ∨ W3.heap.size ≤ x) := hne
        have HLJ : Hid ((((parts n).take m).map fun p => X p.toNat).length = m) := by
          show _ = _
          rw [List.length_map, List.length_take]; omega
        clear ho hne
        by_cases hlt2 : m < (parts n).length
        · have hmz : (m : Int) < ((parts n).length : Int) := by omega
          clear hwn
          rcases HIQ.out.2 with h0 | ⟨pb, po, rfl, hpB, hpU, hpc⟩
          · omega
          have q0 := (hpc m hlt2).1
          have HPM := HDJ.out _ (List.getElem_mem hlt2)
          have HTK : Hid (((parts n).take (m + 1)).map (fun p => X p.toNat) = (((parts n).take m).map fun p => X p.toNat) ++ [X (parts n)[m].toNat]) := by
            show _ = _
            rw [List.take_succ_eq_append_getElem hlt2, List.map_append]; rfl
          obtain ⟨hy0, hy1⟩ := HPM
          generalize (parts n)[m] = yp at q0 hy0 hy1 HTK
          generalize (((parts n).take m).map fun p => X p.toNat) = L at HO HNE HLJ HTK ⊢
          clear hpc
          obtain ⟨jy, rfl⟩ := Int.eq_ofNat_of_zero_le hy0
          rw [Int.toNat_natCast] at HTK
          have c1 : wr.cell? ⟨g, jy, none⟩ = some (.int .i64 (X jy)) := (HRQ.out jy (by omega)).1
          have hyl : (jy : Int) < (l.length : Int) := by omega
          have hLl : L.length ≤ 1048576 := by have := HLJ.out; omega
          generalize X jy = z at c1 HTK
          go_wp2_with (at_builtin; go_must (refine app_int _ rfl _ _ rfl W1.heap.size (.slice ao L.length co) L z rfl rfl HO.out hB1 hLl ?_; intro g5 cp5 w5 ho5 hk5 hg5))
          have HO5 : Hid (Ows w5 W1.heap.size (.slice (some ⟨g5, 0, none⟩) (L.length + 1) cp5) (L ++ [z])) := ho5
          have HK5 : Hid (Kept (fun k => (Value.slice ao L.length co).ownBlock = some k) wr w5) := hk5
          have HG5 : Hid ((Value.slice ao L.length co).ownBlock = some g5 ∨ wr.heap.size ≤ g5) := hg5
          clear ho5 hk5 hg5
          go_wp2
          go_roundw
          case rel =>
            refine ⟨m + 1, by omega, by go_num, by rw [HTK.out]; exact HO5.out, HBQ.out.trans (HK5.out.below (fun b hb => (HO.out.lt b hb).1) hB1), HIQ.out.kept HK5.out (fun b h1 h2 e => by have := HNE.out b e; omega), by have := HK5.out.size; omega, fun b hb => ?_⟩
            cases hb
            rcases HG5.out with e | e
            · exact HNE.out _ e
            · exact .inr (by show _ ≤ g5; omega)
          case measure => simp [intOf]; omega
        · have hmz : ¬ (m : Int) < ((parts n).length : Int) := by omega
          have hme : m = (parts n).length := by omega
          have HLS : Hid ((((parts n).take m).map fun p => X p.toNat) = sd) := by show _ = _; rw [HSX.out, List.take_of_length_le (by omega)]
          clear HO HNE HLJ hme
          rw [HLS.out] at hwn ⊢
          have HWN : Hid (WInts wr W1.heap.size ao sd) := hwn
          obtain ⟨b0, b1, b2, b3, b4, b5⟩ := HNB.out.below HBQ.out (by omega)
          clear hwn
          go_wp2_with fail
          refine (HTJ.out wr ao co HBW.out HWN.out.ints).mono ?_
          rintro e w6 ⟨rfl, hb6⟩
          have HB6 : Hid (Below w.heap.size w w6) := HBW.out.trans (hb6.mono (by omega))
          have HR6 : Hid (Row w6 g l.length (fun i => .int .i64 (X i))) := HRQ.out.below hb6
          obtain ⟨c1, c2⟩ := HR6.out j hlt
          clear hb6 b0 b1 b2 b3 b4 b5
          go_wp2_with fail
          go_roundw
          case rel =>
            refine ⟨j + 1, by omega, by go_num, ?_, HB6.out.trans (((Kept.refl (fun b => b = g) w6).setCell (p := ⟨g, j, none⟩) rfl _).below (fun b (hb : b = g) => by have := HG.out; omega) HB6.out.size)⟩
            refine (HR6.out.set hlt _).congr (fun i hi => ?_)
            rw [HWX.out]
            by_cases e : i = j
            · rw [if_pos e, if_pos e]
            · rw [if_neg e, if_neg e]
          case measure => simp [intOf]; omega
    · have e2 : j = l.length := by omega
      subst e2
      go_wp2
      go_ret
      refine ⟨⟨_, rfl, ⟨by rw [wk_length]; unfold maxLen; omega, .inr ⟨g, 0, rfl, by have := HG.out; omega, fun i hi => ?_⟩⟩⟩, HB.out⟩
      have h9 := HR.out i (by rw [wk_length] at hi; exact hi)
      rw [Nat.zero_add, h9.1, h9.2]
      exact ⟨by dsimp only; rw [List.getD_eq_getElem?_getD, List.getElem?_eq_getElem hi]; rfl, rfl⟩

end Go.Proofs.Ytnkkigoeffghdaa.Aw1

/- The program's walk over a term, for sets of variables: what the closure tells asks nothing of what was said of the parts. -/
namespace Go.Proofs.Ytnkkigoeffghdaa.Aw3
open Go.RowKit
open Nd0 Pl1 Tm0 Tm1 Tm8 Pg1 Pg2 Rw0 Aq0
open Ap12 (Ov app_v makeVs noughts noughts_get)
open Aw1 (nv)
set_option linter.unusedVariables false

/-- What a walk's closure tells of node i, in every world that comes of w0, given what was said of the node's parts. -/
def TellV (w0 : World) (k : Nat) (cap : Array Value) (l : List Nd) (F : Nat → Nd → List Int → Int) : Prop :=
  ∀ (W : World) (i : Nat) (a : Option Addr) (c : Nat), i < l.length → Below w0.heap.size w0 W →
    Calls Try.prog k (#[.int .i64 (i : Int), nv (nth l i), .slice a (said 0 F l i).length c] ++ cap) W fun e w' => e = .returned (.int .u8 (F i (nth l i) (said 0 F l i))) ∧ Below W.heap.size W w'

set_option maxRecDepth 100000 in
set_option maxHeartbeats 4000000 in
theorem wSet (k : Nat) (cap : Array Value) (F : Nat → Nd → List Int → Int) (w : World) (a : Option Addr) (l : List Nd) (c : Nat) (hN : Nodes w a l) (hD : Down l) (hl : l.length ≤ 1048576)
    (hk : ∀ args w, (callFunc k args).run Try.prog w = .ok (.enter k args) w) (hT : TellV w k cap l F) :
    Calls Try.prog 95 #[.slice a l.length c, .func (.func k) #[] cap] w fun e w' => (∃ g, e = .returned (.slice (some ⟨g, 0, none⟩) l.length l.length) ∧ Row w' g l.length (fun i => .int .u8 ((wk 0 F l l.length).getD i 0))) ∧ Below w.heap.size w w' := by
  have HN : Hid (Nodes w a l) := hN
  have HD : Hid (Down l) := hD
  have HT : Hid (TellV w k cap l F) := hT
  clear hN hD hT
  have hmk := makeVs l.length hl w
  obtain ⟨g, hg⟩ : ∃ g : Nat, g = w.heap.size := ⟨_, rfl⟩
  have HG : Hid (g = w.heap.size) := hg
  have HR0 : Hid (Row (w.alloc (.cells (noughts l.length) 71)) g l.length (fun i => .int .u8 ((wk 0 F l 0).getD i 0))) := by
    rw [hg]
    exact Row.new _ _ _ _ _ (fun i hi => noughts_get _ _ hi)
  have HB0 : Hid (Below w.heap.size w (w.alloc (.cells (noughts l.length) 71))) := (Below.refl _ _).alloc (Nat.le_refl _) _
  go_enter Try.func95, Try.ntmps95
  go_wp2_with fail
  clear hmk
  rw [← hg]
  clear hg
  generalize w.alloc (.cells (noughts l.length) 71) = wa at HR0 HB0 ⊢
  go_loopw [16] (fun q wr => ∃ j : Nat, j ≤ l.length ∧ q = .int .i64 j ∧ Row wr g l.length (fun i => .int .u8 ((wk 0 F l j).getD i 0)) ∧ Below w.heap.size w wr) (fun q _ => l.length - (intOf q).toNat)
  case atStart => exact ⟨0, Nat.zero_le _, rfl, HR0.out, HB0.out⟩
  case round =>
    clear HR0 HB0
    obtain ⟨j, hj, rfl, hr, hb⟩ := hrel
    obtain ⟨wb, rfl⟩ : ∃ wb : World, wb = wr := ⟨_, rfl⟩
    have HR : Hid (Row wb g l.length (fun i => .int .u8 ((wk 0 F l j).getD i 0))) := hr
    have HB : Hid (Below w.heap.size w wb) := hb
    have hBs : w.heap.size ≤ wb.heap.size := hb.size
    clear hr hb
    by_cases hlt : j < l.length
    · have hlz : (j : Int) < (l.length : Int) := by omega
      rcases (HN.out.below HB.out).2 with h0 | ⟨xb, xo, rfl, hc⟩
      · omega
      obtain ⟨p0, p1, p2, p3, p4, p5⟩ := hc j hlt
      rw [nth_get hlt] at p0 p1 p2 p3 p4 p5
      clear hc
      have HDJ : Hid (∀ p ∈ parts (nth l j), 0 ≤ p ∧ p < (j : Int)) := HD.out j hlt
      have HSA : Hid (said 0 F l j = (parts (nth l j)).map fun p => (wk 0 F l j).getD p.toNat 0) := rfl
      have HTJ : Hid (∀ (W : World) (a : Option Addr) (c : Nat), Below w.heap.size w W →
        Calls Try.prog k (#[.int .i64 (j : Int), nv (nth l j), .slice a (said 0 F l j).length c] ++ cap) W fun e w' => e = .returned (.int .u8 (F j (nth l j) (said 0 F l j))) ∧ Below W.heap.size W w') := fun W a c h1 => HT.out W j a c hlt h1
      have HWK : Hid (∀ i, (wk 0 F l (j + 1)).getD i 0 = if i = j then F j (nth l j) (said 0 F l j) else (wk 0 F l j).getD i 0) := fun i => wk_set 0 F l j i
      generalize hn : nth l j = n at p0 p1 p2 p3 p4 p5 HDJ HSA HTJ HWK
      clear hn
      generalize F j n (said 0 F l j) = y at HTJ HWK
      generalize said 0 F l j = sd at HSA HTJ
      have hX : ∃ X : Nat → Int, X = fun i => (wk 0 F l j).getD i 0 := ⟨_, rfl⟩
      obtain ⟨X, hX⟩ := hX
      have HRX : Hid (Row wb g l.length (fun i => .int .u8 (X i))) := by rw [hX]; exact HR.out
      have HSX : Hid (sd = (parts n).map fun p => X p.toNat) := by show _ = _; rw [hX]; exact HSA.out
      have HWX : Hid (∀ i, (wk 0 F l (j + 1)).getD i 0 = if i = j then y else X i) := by rw [hX]; exact HWK.out
      clear hX HSA HWK HR
      have hgl : g < wb.heap.size := HRX.out.lt (by omega)
      obtain ⟨W1, hW1⟩ : ∃ W1 : World, W1 = wb.alloc (.cells #[.int .i64 n.op, .int .i64 n.w, .int .i64 n.k, .int .i64 n.a, .int .i64 n.b, .int .i64 n.c] 55) := ⟨_, rfl⟩
      have hs1 : W1.heap.size = wb.heap.size + 1 := by rw [hW1]; simp
      have HB1 : Hid (Below wb.heap.size wb W1) := by rw [hW1]; exact (Below.refl _ _).alloc (Nat.le_refl _) _
      have HNB : Hid (NodeAt W1 wb.heap.size 0 n) := by rw [hW1]; exact ⟨by simp, by simp, by simp, by simp, by simp, by simp⟩
      obtain ⟨W2, hW2⟩ : ∃ W2 : World, W2 = W1.alloc (.cells #[] 71) := ⟨_, rfl⟩
      have hs2 : W2.heap.size = wb.heap.size + 2 := by rw [hW2]; simp [hs1]
      have HB2 : Hid (Below W1.heap.size W1 W2) := by rw [hW2]; exact (Below.refl _ _).alloc (Nat.le_refl _) _
      have HO2 : Hid (Ov W2 W1.heap.size (.slice (some ⟨wb.heap.size + 1, 0, none⟩) 0 0) []) := by rw [← hs1, hW2]; exact Ov.lit W1 _ (Nat.le_refl _)
      go_wp2_with fail
      rw [← hW1, ← hW2]
      refine (iParts n W2).mono ?_
      rintro e W3 ⟨⟨pa, pc, rfl, hpi⟩, hb3⟩
      have hs3 := hb3.size
      have HP3 : Hid (IntsIn W3 W2.heap.size W3.heap.size pa (parts n)) := hpi.within
      have HO3 : Hid (Ov W3 W1.heap.size (.slice (some ⟨wb.heap.size + 1, 0, none⟩) 0 0) []) := HO2.out.kept (S := fun _ => False) (Kept.ofBelow hb3) (fun _ _ h => h)
      have HB3 : Hid (Below W1.heap.size W1 W3) := HB2.out.trans (hb3.mono (by omega))
      have hpl := parts_le n
      clear hpi hb3 HB2 HO2 hW1 hW2 p0 p1 p2 p3 p4 p5
      go_wp2_with fail
      go_loopw [8, 25] (fun v q wq => ∃ m : Nat, m ≤ (parts n).length ∧ q = .int .i64 m ∧ Ov wq W1.heap.size v (((parts n).take m).map fun p => X p.toNat) ∧ Below W1.heap.size W1 wq ∧ IntsIn wq W2.heap.size W3.heap.size pa (parts n) ∧ W3.heap.size ≤ wq.heap.size ∧ ∀ x, v.ownBlock = some x → x < W2.heap.size ∨ W3.heap.size ≤ x) (fun _ q _ => (parts n).length - (intOf q).toNat)
      case atStart => exact ⟨0, Nat.zero_le _, rfl, HO3.out, HB3.out, HP3.out, Nat.le_refl _, fun x hx => by cases hx; exact .inl (by simp; omega)⟩
      case round =>
        clear HO3 HB3 HP3
        obtain ⟨m, hm, rfl, ho, hb, hi, hsz, hne⟩ := hrel
        have HBQ : Hid (Below W1.heap.size W1 wr) := hb
        have HIQ : Hid (IntsIn wr W2.heap.size W3.heap.size pa (parts n)) := hi
        have HRQ : Hid (Row wr g l.length (fun i => .int .u8 (X i))) := (HRX.out.below HB1.out).below hb
        have HBW : Hid (Below w.heap.size w wr) := (HB.out.trans (HB1.out.mono hBs)).trans (hb.mono (by omega))
        have hB1 : W1.heap.size ≤ wr.heap.size := hb.size
        clear hb hi
        obtain ⟨ao, co, rfl⟩ := ho.form
        have HO : Hid (Ov wr W1.heap.size (.slice ao (((parts n).take m).map fun p => X p.toNat).length co) (((parts n).take m).map fun p => X p.toNat)) := ho
        have HNE : Hid (∀ x, (Value.slice ao (((parts n).take m).map fun p => X p.toNat).length co).ownBlock = some x → x < W2.heap.size ∨ W3.heap.size ≤ x) := hne
        have HLJ : Hid ((((parts n).take m).map fun p => X p.toNat).length = m) := by
          show _ = _
          rw [List.length_map, List.length_take]; omega
        clear ho hne
        by_cases hlt2 : m < (parts n).length
        · have hmz : (m : Int) < ((parts n).length : Int) := by omega
          rcases HIQ.out.2 with h0 | ⟨pb, po, rfl, hpB, hpU, hpc⟩
          · omega
          have q0 := (hpc m hlt2).1
          have HPM := HDJ.out _ (List.getElem_mem hlt2)
          have HTK : Hid (((parts n).take (m + 1)).map (fun p => X p.toNat) = (((parts n).take m).map fun p => X p.toNat) ++ [X (parts n)[m].toNat]) := by
            show _ = _
            rw [List.take_succ_eq_append_getElem hlt2, List.map_append]; rfl
          obtain ⟨hy0, hy1⟩ := HPM
          generalize (parts n)[m] = yp at q0 hy0 hy1 HTK
          generalize (((parts n).take m).map fun p => X p.toNat) = L at HO HNE HLJ HTK ⊢
          clear hpc
          obtain ⟨jy, rfl⟩ := Int.eq_ofNat_of_zero_le hy0
          rw [Int.toNat_natCast] at HTK
          have c1 : wr.cell? ⟨g, jy, none⟩ = some (.int .u8 (X jy)) := (HRQ.out jy (by omega)).1
          have hyl : (jy : Int) < (l.length : Int) := by omega
          have hLl : L.length ≤ 1048576 := by have := HLJ.out; omega
          generalize X jy = z at c1 HTK
          go_wp2_with (at_builtin; go_must (refine app_v _ rfl _ _ rfl W1.heap.size (.slice ao L.length co) L z rfl rfl HO.out hB1 hLl ?_; intro g5 cp5 w5 ho5 hk5 hg5))
          have HO5 : Hid (Ov w5 W1.heap.size (.slice (some ⟨g5, 0, none⟩) (L.length + 1) cp5) (L ++ [z])) := ho5
          have HK5 : Hid (Kept (fun k => (Value.slice ao L.length co).ownBlock = some k) wr w5) := hk5
          have HG5 : Hid ((Value.slice ao L.length co).ownBlock = some g5 ∨ wr.heap.size ≤ g5) := hg5
          clear ho5 hk5 hg5
          go_wp2
          go_roundw
          case rel =>
            refine ⟨m + 1, by omega, by go_num, by rw [HTK.out]; exact HO5.out, HBQ.out.trans (HK5.out.below (fun b hb => (HO.out.lt b hb).1) hB1), HIQ.out.kept HK5.out (fun b h1 h2 e => by have := HNE.out b e; omega), by have := HK5.out.size; omega, fun b hb => ?_⟩
            cases hb
            rcases HG5.out with e | e
            · exact HNE.out _ e
            · exact .inr (by show _ ≤ g5; omega)
          case measure => simp [intOf]; omega
        · have hmz : ¬ (m : Int) < ((parts n).length : Int) := by omega
          have hme : m = (parts n).length := by omega
          have HLS : Hid ((((parts n).take m).map fun p => X p.toNat) = sd) := by show _ = _; rw [HSX.out, List.take_of_length_le (by omega)]
          clear HO HNE HLJ hme
          rw [HLS.out]
          obtain ⟨b0, b1, b2, b3, b4, b5⟩ := HNB.out.below HBQ.out (by omega)
          go_wp2_with fail
          refine (HTJ.out wr ao co HBW.out).mono ?_
          rintro e w6 ⟨rfl, hb6⟩
          have HB6 : Hid (Below w.heap.size w w6) := HBW.out.trans (hb6.mono (by omega))
          have HR6 : Hid (Row w6 g l.length (fun i => .int .u8 (X i))) := HRQ.out.below hb6
          obtain ⟨c1, c2⟩ := HR6.out j hlt
          clear hb6 b0 b1 b2 b3 b4 b5
          go_wp2_with fail
          go_roundw
          case rel =>
            refine ⟨j + 1, by omega, by go_num, ?_, HB6.out.trans (((Kept.refl (fun b => b = g) w6).setCell (p := ⟨g, j, none⟩) rfl _).below (fun b (hb : b = g) => by have := HG.out; omega) HB6.out.size)⟩
            refine (HR6.out.set hlt _).congr (fun i hi => ?_)
            rw [HWX.out]
            by_cases e : i = j
            · rw [if_pos e, if_pos e]
            · rw [if_neg e, if_neg e]
          case measure => simp [intOf]; omega
    · have e2 : j = l.length := by omega
      subst e2
      go_wp2
      go_ret
      exact ⟨⟨_, rfl, HR.out⟩, HB.out⟩

end Go.Proofs.Ytnkkigoeffghdaa.Aw3

/- Walks of the program's sets of variables: justVar and numbers. -/
namespace Go.Proofs.Ytnkkigoeffghdaa.Pg8
open Go.RowKit
open Nd0 Pl1 Tm0 Tm1 Tm4 Tm7 Ap0
open Ws1 (ret_int ret_bool)
set_option linter.unusedVariables false

set_option maxHeartbeats 1000000 in
theorem iJust (kk : Nat) (w : World) (h7 : kk ≤ 7) :
    Calls Try.prog 73 #[.int .i64 kk] w fun e w' => e = .returned (.int .u8 ((2 ^ kk : Nat) : Int)) ∧ w' = w := by
  have h8 : kk = 0 ∨ kk = 1 ∨ kk = 2 ∨ kk = 3 ∨ kk = 4 ∨ kk = 5 ∨ kk = 6 ∨ kk = 7 := by omega
  rcases h8 with rfl | rfl | rfl | rfl | rfl | rfl | rfl | rfl
  all_goals
    go_enter Try.func73, Try.ntmps73
    go_wp2
    go_ret
    exact ⟨ret_int (by decide), rfl⟩

set_option maxHeartbeats 1000000 in
theorem iNumbers (s : Nat) (w : World) (hs : s < 256) :
    Calls Try.prog 63 #[.int .u8 s] w fun e w' => (∃ a' c', e = .returned (.slice a' (numsTo s 8).length c') ∧ WInts w' w.heap.size a' (numsTo s 8)) ∧ Below w.heap.size w w' := by
  go_enter Try.func63, Try.ntmps63
  go_wp2
  go_loopw [0, 3, 4] (fun x v q wr => ∃ k : Nat, k ≤ 8 ∧ q = .int .i64 k ∧ x = .int .u8 ((s / 2 ^ k : Nat) : Int) ∧ Ows wr w.heap.size v (numsTo s k) ∧ Below w.heap.size w wr) (fun x _ _ _ => (intOf x).toNat)
  case atStart => exact ⟨0, by omega, rfl, by simp, Ows.lit w _ (Nat.le_refl _), (Below.refl _ _).alloc (Nat.le_refl _) _⟩
  case round =>
    obtain ⟨k, hk, rfl, rfl, ho, hb⟩ := hrel
    have HO : Hid (Ows wr w.heap.size u3 (numsTo s k)) := ho
    have HB : Hid (Below w.heap.size w wr) := hb
    have hBs : w.heap.size ≤ wr.heap.size := hb.size
    have hln := numsTo_length s k
    have HLB := low_bit s k
    have hle : s / 2 ^ k ≤ s := Nat.div_le_self _ _
    have HSH : Hid (s / 2 ^ k / 2 = s / 2 ^ (k + 1)) := by show _ = _; rw [Nat.div_div_eq_div_mul, ← Nat.pow_succ]
    have HEND : Hid (s / 2 ^ k = 0 → numsTo s k = numsTo s 8) := fun h => nums_end s k h hk
    have HK8 : Hid (¬ s / 2 ^ k = 0 → k < 8) := by
      show _ → _
      intro h
      rcases Nat.lt_or_ge k 8 with h8 | h8
      · exact h8
      · exact absurd (Nat.div_eq_zero_iff.2 (.inr (Nat.lt_of_lt_of_le hs (Nat.pow_le_pow_right (n := 2) (by omega) h8)))) h
    have HLB' : Hid ((s / 2 ^ k) % 2 = 1 ↔ s.testBit k = true) := HLB
    clear hb HLB
    generalize s / 2 ^ k = t at hle HSH HEND HK8 HLB' ⊢
    by_cases h0 : t = 0
    · have hz0 : ((t : Int) != 0) = false := by simp; omega
      obtain ⟨a9, c9, rfl, hw9⟩ := ho.form
      have HW9 : Hid (WInts wr w.heap.size a9 (numsTo s k)) := hw9
      clear ho hw9 HO
      have HE9 : Hid (numsTo s k = numsTo s 8) := HEND.out h0
      clear HEND h0 HK8 HSH HLB' hle
      go_wp2
      go_ret
      refine ⟨⟨a9, c9, ?_, ?_⟩, HB.out⟩
      · rw [← HE9.out]; simp
      · rw [← HE9.out]; exact HW9.out
    · have hk8 := HK8.out h0
      clear ho
      have ht : (t : Int) ≤ 255 := by omega
      have hnz : ((t : Int) != 0) = true := by simp; omega
      have hand : bits .and .u8 (t : Int) (1 : Int) = ((t % 2 : Nat) : Int) := by
        have := bits_and_u8_nat t 1 (by omega) (by omega)
        rw [Nat.and_one_is_mod] at this
        exact this
      by_cases h1 : t % 2 = 1
      · have HT2 : Hid (numsTo s (k + 1) = numsTo s k ++ [(k : Int)]) := by
          show _ = _
          rw [numsTo_succ, HLB'.out.1 h1]; rfl
        rw [h1] at hand
        go_wp2_with (at_builtin; go_must (refine app_int _ rfl _ _ rfl w.heap.size u3 (numsTo s k) (k : Int) rfl rfl HO.out hBs (by omega) ?_; intro g' cp w3 ho3 hk3 hg3))
        have HO3 : Hid (Ows w3 w.heap.size (.slice (some ⟨g', 0, none⟩) ((numsTo s k).length + 1) cp) (numsTo s k ++ [(k : Int)])) := ho3
        have HK3 : Hid (Kept (fun k => u3.ownBlock = some k) wr w3) := hk3
        clear ho3 hk3 hg3
        go_wp2
        go_roundw
        case rel => exact ⟨k + 1, by omega, by go_num, by rw [← HSH.out]; go_num, HT2.out.symm ▸ HO3.out, HB.out.trans (HK3.out.below (fun k hk => (HO.out.lt k hk).1) hBs)⟩
        case measure => simp [intOf]; omega
      · have HT2 : Hid (numsTo s (k + 1) = numsTo s k) := by
          show _ = _
          rw [numsTo_succ, if_neg (fun h => h1 (HLB'.out.2 h))]
        have h10 : t % 2 = 0 := by omega
        rw [h10] at hand
        go_wp2
        go_roundw
        case rel => exact ⟨k + 1, by omega, by go_num, by rw [← HSH.out]; go_num, HT2.out.symm ▸ HO.out, HB.out⟩
        case measure => simp [intOf]; omega

end Go.Proofs.Ytnkkigoeffghdaa.Pg8
