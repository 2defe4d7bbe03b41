/- Small texts of mine, one behind the other. -/
import Derived.WalkSpells
import Derived.Deep.RegionWith
import Derived.Test.YtejgcchkhljnjaaGreatPkNM26
import Derived.Test.YtejgcchkhljnjaaGreatPkNM2
import Derived.Test.YtejgcchkhljnjaaGreatPkNM27
import Derived.Test.YtejgcchkhljnjaaGreatPkNM15
import Derived.Test.YtejgcchkhljnjaaGreatPkNM14
import Derived.Test.YtejgcchkhljnjaaGreatPkNM3
import Derived.Test.YtejgcchkhljnjaaGreatPkNM19
/- The program's walk over a term, for sets of variables: what the closure tells asks nothing of what was said of the parts. -/
namespace Go.Proofs.YtejgcchkhljnjaaGreat.Aw3
open Go.RowKit
open Nd0 Pl1 Tm0 Tm1 Tm8 Pg1 Pg2 Rw0 Aq0
open Ap12 (Ov app_v makeVs noughts noughts_get)
open Aw1 (nv)
set_option linter.unusedVariables false

def TellV (w0 : World) (k : Nat) (cap : Array Value) (l : List Nd) (F : Nat → Nd → List Int → Int) : Prop :=
  ∀ (W : World) (i : Nat) (a : Option Addr) (c : Nat), i < l.length → Below w0.heap.size w0 W →
    Calls Tryz.prog k (#[.int .i64 (i : Int), nv (nth l i), .slice a (said 0 F l i).length c] ++ cap) W fun e w' => e = .returned (.int .u8 (F i (nth l i) (said 0 F l i))) ∧ Below W.heap.size W w'

set_option maxRecDepth 100000 in
set_option maxHeartbeats 4000000 in
theorem wSet (k : Nat) (cap : Array Value) (F : Nat → Nd → List Int → Int) (w : World) (a : Option Addr) (l : List Nd) (c : Nat) (hN : Nodes w a l) (hD : Down l) (hl : l.length ≤ 1048576)
    (hk : ∀ args w, (callFunc k args).run Tryz.prog w = .ok (.enter k args) w) (hT : TellV w k cap l F) :
    Calls Tryz.prog 117 #[.slice a l.length c, .func (.func k) #[] cap] w fun e w' => (∃ g, e = .returned (.slice (some ⟨g, 0, none⟩) l.length l.length) ∧ Row w' g l.length (fun i => .int .u8 ((wk 0 F l l.length).getD i 0))) ∧ Below w.heap.size w w' := by
  have HN : Hid (Nodes w a l) := hN
  have HD : Hid (Down l) := hD
  have HT : Hid (TellV w k cap l F) := hT
  clear hN hD hT
  have hmk := makeVs l.length hl w
  obtain ⟨g, hg⟩ : ∃ g : Nat, g = w.heap.size := ⟨_, rfl⟩
  have HG : Hid (g = w.heap.size) := hg
  have HR0 : Hid (Row (w.alloc (.cells (noughts l.length) 70)) g l.length (fun i => .int .u8 ((wk 0 F l 0).getD i 0))) := by
    rw [hg]
    exact Row.new _ _ _ _ _ (fun i hi => noughts_get _ _ hi)
  have HB0 : Hid (Below w.heap.size w (w.alloc (.cells (noughts l.length) 70))) := (Below.refl _ _).alloc (Nat.le_refl _) _
  go_enter Tryz.func117, Tryz.ntmps117
  go_wp2_with fail
  clear hmk
  rw [← hg]
  clear hg
  generalize w.alloc (.cells (noughts l.length) 70) = wa at HR0 HB0 ⊢
  go_loopw [16] (fun q wr => ∃ j : Nat, j ≤ l.length ∧ q = .int .i64 j ∧ Row wr g l.length (fun i => .int .u8 ((wk 0 F l j).getD i 0)) ∧ Below w.heap.size w wr) (fun q _ => l.length - (intOf q).toNat)
  case atStart => exact ⟨0, Nat.zero_le _, rfl, HR0.out, HB0.out⟩
  case round =>
    clear HR0 HB0
    obtain ⟨j, hj, rfl, hr, hb⟩ := hrel
    obtain ⟨wb, rfl⟩ : ∃ wb : World, wb = wr := ⟨_, rfl⟩
    have HR : Hid (Row wb g l.length (fun i => .int .u8 ((wk 0 F l j).getD i 0))) := hr
    have HB : Hid (Below w.heap.size w wb) := hb
    have hBs : w.heap.size ≤ wb.heap.size := hb.size
    clear hr hb
    by_cases hlt : j < l.length
    · have hlz : (j : Int) < (l.length : Int) := by omega
      rcases (HN.out.below HB.out).2 with h0 | ⟨xb, xo, rfl, hc⟩
      · omega
      obtain ⟨p0, p1, p2, p3, p4, p5⟩ := hc j hlt
      rw [nth_get hlt] at p0 p1 p2 p3 p4 p5
      clear hc
      have HDJ : Hid (∀ p ∈ parts (nth l j), 0 ≤ p ∧ p < (j : Int)) := HD.out j hlt
      have HSA : Hid (said 0 F l j = (parts (nth l j)).map fun p => (wk 0 F l j).getD p.toNat 0) := rfl
      have HTJ : Hid (∀ (W : World) (a : Option Addr) (c : Nat), Below w.heap.size w W →
        Calls Tryz.prog k (#[.int .i64 (j : Int), nv (nth l j), .slice a (said 0 F l j).length c] ++ cap) W fun e w' => e = .returned (.int .u8 (F j (nth l j) (said 0 F l j))) ∧ Below W.heap.size W w') := fun W a c h1 => HT.out W j a c hlt h1
      have HWK : Hid (∀ i, (wk 0 F l (j + 1)).getD i 0 = if i = j then F j (nth l j) (said 0 F l j) else (wk 0 F l j).getD i 0) := fun i => wk_set 0 F l j i
      generalize hn : nth l j = n at p0 p1 p2 p3 p4 p5 HDJ HSA HTJ HWK
      clear hn
      generalize F j n (said 0 F l j) = y at HTJ HWK
      generalize said 0 F l j = sd at HSA HTJ
      have hX : ∃ X : Nat → Int, X = fun i => (wk 0 F l j).getD i 0 := ⟨_, rfl⟩
      obtain ⟨X, hX⟩ := hX
      have HRX : Hid (Row wb g l.length (fun i => .int .u8 (X i))) := by rw [hX]; exact HR.out
      have HSX : Hid (sd = (parts n).map fun p => X p.toNat) := by show _ = _; rw [hX]; exact HSA.out
      have HWX : Hid (∀ i, (wk 0 F l (j + 1)).getD i 0 = if i = j then y else X i) := by rw [hX]; exact HWK.out
      clear hX HSA HWK HR
      have hgl : g < wb.heap.size := HRX.out.lt (by omega)
      obtain ⟨W1, hW1⟩ : ∃ W1 : World, W1 = wb.alloc (.cells #[.int .i64 n.op, .int .i64 n.w, .int .i64 n.k, .int .i64 n.a, .int .i64 n.b, .int .i64 n.c] 53) := ⟨_, rfl⟩
      have hs1 : W1.heap.size = wb.heap.size + 1 := by rw [hW1]; simp
      have HB1 : Hid (Below wb.heap.size wb W1) := by rw [hW1]; exact (Below.refl _ _).alloc (Nat.le_refl _) _
      have HNB : Hid (NodeAt W1 wb.heap.size 0 n) := by rw [hW1]; exact ⟨by simp, by simp, by simp, by simp, by simp, by simp⟩
      obtain ⟨W2, hW2⟩ : ∃ W2 : World, W2 = W1.alloc (.cells #[] 70) := ⟨_, rfl⟩
      have hs2 : W2.heap.size = wb.heap.size + 2 := by rw [hW2]; simp [hs1]
      have HB2 : Hid (Below W1.heap.size W1 W2) := by rw [hW2]; exact (Below.refl _ _).alloc (Nat.le_refl _) _
      have HO2 : Hid (Ov W2 W1.heap.size (.slice (some ⟨wb.heap.size + 1, 0, none⟩) 0 0) []) := by rw [← hs1, hW2]; exact Ov.lit W1 _ (Nat.le_refl _)
      go_wp2_with fail
      rw [← hW1, ← hW2]
      refine (iParts n W2).mono ?_
      rintro e W3 ⟨⟨pa, pc, rfl, hpi⟩, hb3⟩
      have hs3 := hb3.size
      have HP3 : Hid (IntsIn W3 W2.heap.size W3.heap.size pa (parts n)) := hpi.within
      have HO3 : Hid (Ov W3 W1.heap.size (.slice (some ⟨wb.heap.size + 1, 0, none⟩) 0 0) []) := HO2.out.kept (S := fun _ => False) (Kept.ofBelow hb3) (fun _ _ h => h)
      have HB3 : Hid (Below W1.heap.size W1 W3) := HB2.out.trans (hb3.mono (by omega))
      have hpl := parts_le n
      clear hpi hb3 HB2 HO2 hW1 hW2 p0 p1 p2 p3 p4 p5
      go_wp2_with fail
      go_loopw [8, 25] (fun v q wq => ∃ m : Nat, m ≤ (parts n).length ∧ q = .int .i64 m ∧ Ov wq W1.heap.size v (((parts n).take m).map fun p => X p.toNat) ∧ Below W1.heap.size W1 wq ∧ IntsIn wq W2.heap.size W3.heap.size pa (parts n) ∧ W3.heap.size ≤ wq.heap.size ∧ ∀ x, v.ownBlock = some x → x < W2.heap.size ∨ W3.heap.size ≤ x) (fun _ q _ => (parts n).length - (intOf q).toNat)
      case atStart => exact ⟨0, Nat.zero_le _, rfl, HO3.out, HB3.out, HP3.out, Nat.le_refl _, fun x hx => by cases hx; exact .inl (by simp; omega)⟩
      case round =>
        clear HO3 HB3 HP3
        obtain ⟨m, hm, rfl, ho, hb, hi, hsz, hne⟩ := hrel
        have HBQ : Hid (Below W1.heap.size W1 wr) := hb
        have HIQ : Hid (IntsIn wr W2.heap.size W3.heap.size pa (parts n)) := hi
        have HRQ : Hid (Row wr g l.length (fun i => .int .u8 (X i))) := (HRX.out.below HB1.out).below hb
        have HBW : Hid (Below w.heap.size w wr) := (HB.out.trans (HB1.out.mono hBs)).trans (hb.mono (by omega))
        have hB1 : W1.heap.size ≤ wr.heap.size := hb.size
        clear hb hi
        obtain ⟨ao, co, rfl⟩ := ho.form
        have HO : Hid (Ov wr W1.heap.size (.slice ao (((parts n).take m).map fun p => X p.toNat).length co) (((parts n).take m).map fun p => X p.toNat)) := ho
        have HNE : Hid (∀ x, (Value.slice ao (((parts n).take m).map fun p => X p.toNat).length co).ownBlock = some x → x < W2.heap.size ∨ W3.heap.size ≤ x) := hne
        have HLJ : Hid ((((parts n).take m).map fun p => X p.toNat).length = m) := by
          show _ = _
          rw [List.length_map, List.length_take]; omega
        clear ho hne
        by_cases hlt2 : m < (parts n).length
        · have hmz : (m : Int) < ((parts n).length : Int) := by omega
          rcases HIQ.out.2 with h0 | ⟨pb, po, rfl, hpB, hpU, hpc⟩
          · omega
          have q0 := (hpc m hlt2).1
          have HPM := HDJ.out _ (List.getElem_mem hlt2)
          have HTK : Hid (((parts n).take (m + 1)).map (fun p => X p.toNat) = (((parts n).take m).map fun p => X p.toNat) ++ [X (parts n)[m].toNat]) := by
            show _ = _
            rw [List.take_succ_eq_append_getElem hlt2, List.map_append]; rfl
          obtain ⟨hy0, hy1⟩ := HPM
          generalize (parts n)[m] = yp at q0 hy0 hy1 HTK
          generalize (((parts n).take m).map fun p => X p.toNat) = L at HO HNE HLJ HTK ⊢
          clear hpc
          obtain ⟨jy, rfl⟩ := Int.eq_ofNat_of_zero_le hy0
          rw [Int.toNat_natCast] at HTK
          have c1 : wr.cell? ⟨g, jy, none⟩ = some (.int .u8 (X jy)) := (HRQ.out jy (by omega)).1
          have hyl : (jy : Int) < (l.length : Int) := by omega
          have hLl : L.length ≤ 1048576 := by have := HLJ.out; omega
          generalize X jy = z at c1 HTK
          go_wp2_with (at_builtin; go_must (refine app_v _ rfl _ _ rfl W1.heap.size (.slice ao L.length co) L z rfl rfl HO.out hB1 hLl ?_; intro g5 cp5 w5 ho5 hk5 hg5))
          have HO5 : Hid (Ov w5 W1.heap.size (.slice (some ⟨g5, 0, none⟩) (L.length + 1) cp5) (L ++ [z])) := ho5
          have HK5 : Hid (Kept (fun k => (Value.slice ao L.length co).ownBlock = some k) wr w5) := hk5
          have HG5 : Hid ((Value.slice ao L.length co).ownBlock = some g5 ∨ wr.heap.size ≤ g5) := hg5
          clear ho5 hk5 hg5
          go_wp2
          go_roundw
          case rel =>
            refine ⟨m + 1, by omega, by go_num, by rw [HTK.out]; exact HO5.out, HBQ.out.trans (HK5.out.below (fun b hb => (HO.out.lt b hb).1) hB1), HIQ.out.kept HK5.out (fun b h1 h2 e => by have := HNE.out b e; omega), by have := HK5.out.size; omega, fun b hb => ?_⟩
            cases hb
            rcases HG5.out with e | e
            · exact HNE.out _ e
            · exact .inr (by show _ ≤ g5; omega)
          case measure => simp [intOf]; omega
        · have hmz : ¬ (m : Int) < ((parts n).length : Int) := by omega
          have hme : m = (parts n).length := by omega
          have HLS : Hid ((((parts n).take m).map fun p => X p.toNat) = sd) := by show _ = _; rw [HSX.out, List.take_of_length_le (by omega)]
          clear HO HNE HLJ hme
          rw [HLS.out]
          obtain ⟨b0, b1, b2, b3, b4, b5⟩ := HNB.out.below HBQ.out (by omega)
          go_wp2_with fail
          refine (HTJ.out wr ao co HBW.out).mono ?_
          rintro e w6 ⟨rfl, hb6⟩
          have HB6 : Hid (Below w.heap.size w w6) := HBW.out.trans (hb6.mono (by omega))
          have HR6 : Hid (Row w6 g l.length (fun i => .int .u8 (X i))) := HRQ.out.below hb6
          obtain ⟨c1, c2⟩ := HR6.out j hlt
          clear hb6 b0 b1 b2 b3 b4 b5
          go_wp2_with fail
          go_roundw
          case rel =>
            refine ⟨j + 1, by omega, by go_num, ?_, HB6.out.trans (((Kept.refl (fun b => b = g) w6).setCell (p := ⟨g, j, none⟩) rfl _).below (fun b (hb : b = g) => by have := HG.out; omega) HB6.out.size)⟩
            refine (HR6.out.set hlt _).congr (fun i hi => ?_)
            rw [HWX.out]
            by_cases e : i = j
            · rw [if_pos e, if_pos e]
            · rw [if_neg e, if_neg e]
          case measure => simp [intOf]; omega
    · have e2 : j = l.length := by omega
      subst e2
      go_wp2
      go_ret
      exact ⟨⟨_, rfl, HR.out⟩, HB.out⟩

end Go.Proofs.YtejgcchkhljnjaaGreat.Aw3

/- Walks of the program's sets of variables: justVar and numbers. -/
namespace Go.Proofs.YtejgcchkhljnjaaGreat.Pg8
open Go.RowKit
open Nd0 Pl1 Tm0 Tm1 Tm4 Tm7 Ap0
open Ws1 (ret_int ret_bool)
set_option linter.unusedVariables false

set_option maxHeartbeats 1000000 in
theorem iJust (kk : Nat) (w : World) (h7 : kk ≤ 7) :
    Calls Tryz.prog 61 #[.int .i64 kk] w fun e w' => e = .returned (.int .u8 ((2 ^ kk : Nat) : Int)) ∧ w' = w := by
  have h8 : kk = 0 ∨ kk = 1 ∨ kk = 2 ∨ kk = 3 ∨ kk = 4 ∨ kk = 5 ∨ kk = 6 ∨ kk = 7 := by omega
  rcases h8 with rfl | rfl | rfl | rfl | rfl | rfl | rfl | rfl
  all_goals
    go_enter Tryz.func61, Tryz.ntmps61
    go_wp2
    go_ret
    exact ⟨ret_int (by decide), rfl⟩

set_option maxHeartbeats 1000000 in
theorem iNumbers (s : Nat) (w : World) (hs : s < 256) :
    Calls Tryz.prog 70 #[.int .u8 s] w fun e w' => (∃ a' c', e = .returned (.slice a' (numsTo s 8).length c') ∧ WInts w' w.heap.size a' (numsTo s 8)) ∧ Below w.heap.size w w' := by
  go_enter Tryz.func70, Tryz.ntmps70
  go_wp2
  go_loopw [0, 3, 4] (fun x v q wr => ∃ k : Nat, k ≤ 8 ∧ q = .int .i64 k ∧ x = .int .u8 ((s / 2 ^ k : Nat) : Int) ∧ Ows wr w.heap.size v (numsTo s k) ∧ Below w.heap.size w wr) (fun x _ _ _ => (intOf x).toNat)
  case atStart => exact ⟨0, by omega, rfl, by simp, Ows.lit w _ (Nat.le_refl _), (Below.refl _ _).alloc (Nat.le_refl _) _⟩
  case round =>
    obtain ⟨k, hk, rfl, rfl, ho, hb⟩ := hrel
    have HO : Hid (Ows wr w.heap.size u3 (numsTo s k)) := ho
    have HB : Hid (Below w.heap.size w wr) := hb
    have hBs : w.heap.size ≤ wr.heap.size := hb.size
    have hln := numsTo_length s k
    have HLB := low_bit s k
    have hle : s / 2 ^ k ≤ s := Nat.div_le_self _ _
    have HSH : Hid (s / 2 ^ k / 2 = s / 2 ^ (k + 1)) := by show _ = _; rw [Nat.div_div_eq_div_mul, ← Nat.pow_succ]
    have HEND : Hid (s / 2 ^ k = 0 → numsTo s k = numsTo s 8) := fun h => nums_end s k h hk
    have HK8 : Hid (¬ s / 2 ^ k = 0 → k < 8) := by
      show _ → _
      intro h
      rcases Nat.lt_or_ge k 8 with h8 | h8
      · exact h8
      · exact absurd (Nat.div_eq_zero_iff.2 (.inr (Nat.lt_of_lt_of_le hs (Nat.pow_le_pow_right (n := 2) (by omega) h8)))) h
    have HLB' : Hid ((s / 2 ^ k) % 2 = 1 ↔ s.testBit k = true) := HLB
    clear hb HLB
    generalize s / 2 ^ k = t at hle HSH HEND HK8 HLB' ⊢
    by_cases h0 : t = 0
    · have hz0 : ((t : Int) != 0) = false := by simp; omega
      obtain ⟨a9, c9, rfl, hw9⟩ := ho.form
      have HW9 : Hid (WInts wr w.heap.size a9 (numsTo s k)) := hw9
      clear ho hw9 HO
      have HE9 : Hid (numsTo s k = numsTo s 8) := HEND.out h0
      clear HEND h0 HK8 HSH HLB' hle
      go_wp2
      go_ret
      refine ⟨⟨a9, c9, ?_, ?_⟩, HB.out⟩
      · rw [← HE9.out]; simp
      · rw [← HE9.out]; exact HW9.out
    · have hk8 := HK8.out h0
      clear ho
      have ht : (t : Int) ≤ 255 := by omega
      have hnz : ((t : Int) != 0) = true := by simp; omega
      have hand : bits .and .u8 (t : Int) (1 : Int) = ((t % 2 : Nat) : Int) := by
        have := bits_and_u8_nat t 1 (by omega) (by omega)
        rw [Nat.and_one_is_mod] at this
        exact this
      by_cases h1 : t % 2 = 1
      · have HT2 : Hid (numsTo s (k + 1) = numsTo s k ++ [(k : Int)]) := by
          show _ = _
          rw [numsTo_succ, HLB'.out.1 h1]; rfl
        rw [h1] at hand
        go_wp2_with (at_builtin; go_must (refine app_int _ rfl _ _ rfl w.heap.size u3 (numsTo s k) (k : Int) rfl rfl HO.out hBs (by omega) ?_; intro g' cp w3 ho3 hk3 hg3))
        have HO3 : Hid (Ows w3 w.heap.size (.slice (some ⟨g', 0, none⟩) ((numsTo s k).length + 1) cp) (numsTo s k ++ [(k : Int)])) := ho3
        have HK3 : Hid (Kept (fun k => u3.ownBlock = some k) wr w3) := hk3
        clear ho3 hk3 hg3
        go_wp2
        go_roundw
        case rel => exact ⟨k + 1, by omega, by go_num, by rw [← HSH.out]; go_num, HT2.out.symm ▸ HO3.out, HB.out.trans (HK3.out.below (fun k hk => (HO.out.lt k hk).1) hBs)⟩
        case measure => simp [intOf]; omega
      · have HT2 : Hid (numsTo s (k + 1) = numsTo s k) := by
          show _ = _
          rw [numsTo_succ, if_neg (fun h => h1 (HLB'.out.2 h))]
        have h10 : t % 2 = 0 := by omega
        rw [h10] at hand
        go_wp2
        go_roundw
        case rel => exact ⟨k + 1, by omega, by go_num, by rw [← HSH.out]; go_num, HT2.out.symm ▸ HO.out, HB.out⟩
        case measure => simp [intOf]; omega

end Go.Proofs.YtejgcchkhljnjaaGreat.Pg8

/- The walk of the program's freeSet. -/
namespace Go.Proofs.YtejgcchkhljnjaaGreat.Pg9
open Go.RowKit
open Nd0 Pl1 Tm0 Tm1 Tm4 Tm5 Tm7 Ap0 Pg1 Pg2 Pg8 Rw0
open Ws1 (ret_int ret_bool)
open Lx1 (ITermOk)
set_option linter.unusedVariables false

theorem zeros8 : Tryz.zeroCells132 = Array.replicate 80 (.int .u8 0) := by kernel_rfl

theorem var_of {l : List Nd} {k : Nat} (h : nodeOk l k = true) (hop : (nth l k).op = 1 ∨ quant (nth l k).op = true) : ∃ kk : Nat, (nth l k).k = (kk : Int) ∧ kk ≤ 7 := by
  simp only [nodeOk, Bool.and_eq_true] at h
  have hs := h.2
  unfold shapeOk at hs
  have hb : 0 ≤ (nth l k).k ∧ (nth l k).k ≤ 7 := by
    rcases hop with h1 | h1
    · rw [if_neg (by omega), if_pos h1] at hs
      simp at hs; omega
    · have h2 : (nth l k).op = 19 ∨ (nth l k).op = 20 := by simpa [quant] using h1
      rw [if_neg (by omega), if_neg (by omega), if_neg (by omega), if_neg (by omega), if_neg (by omega), if_neg (by omega), if_neg (by omega), if_neg (by omega), if_pos h2] at hs
      simp at hs; omega
  exact ⟨(nth l k).k.toNat, by omega, by omega⟩

def Sets (l : List Nd) (k : Nat) (s : Nat → Nat) : Prop := (∀ i, i < k → Has (s i) (row (freeRows l k) (i : Int))) ∧ ∀ i, k ≤ i → s i = 0

theorem sets_next {l : List Nd} {k : Nat} {s s' : Nat → Nat} {x : Nat} (h : Sets l k s) (hx : Has x (freeRow (freeRows l k) (nth l k))) (hs : ∀ i, s' i = if i = k then x else s i) : Sets l (k + 1) s' := by
  constructor
  · intro i hi
    rw [hs i]
    by_cases e : i = k
    · subst e; rw [if_pos rfl, row_new]; exact hx
    · rw [if_neg e, row_old l k (i : Int) (by omega) (by omega)]; exact h.1 i (by omega)
  · intro i hi
    rw [hs i, if_neg (by omega)]; exact h.2 i (by omega)

set_option maxRecDepth 100000 in
set_option maxHeartbeats 4000000 in
theorem iFreeSet (w : World) (a : Option Addr) (l : List Nd) (c : Nat) (hN : Nodes w a l) (hT : termOk l = true) :
    Calls Tryz.prog 77 #[.slice a l.length c] w fun e w' => (∃ s : Nat, e = .returned (.int .u8 s) ∧ Has s (freeTop l)) ∧ Below w.heap.size w w' := by
  have HN : Hid (Nodes w a l) := hN
  have HT : Hid (termOk l = true) := hT
  obtain ⟨hl1, hl2⟩ := term_len hT
  clear hN hT
  obtain ⟨g, hg⟩ : ∃ g : Nat, g = w.heap.size := ⟨_, rfl⟩
  have HG : Hid (g = w.heap.size) := hg
  have HR0 : Hid (Row (w.alloc (.cells Tryz.zeroCells132 132)) g 80 (fun i => .int .u8 (((fun _ => 0) i : Nat) : Int))) := by
    rw [hg]
    refine Row.new _ _ _ _ _ (fun i hi => ?_)
    rw [zeros8, Array.getElem?_replicate, if_pos hi]; rfl
  have HB0 : Hid (Below w.heap.size w (w.alloc (.cells Tryz.zeroCells132 132))) := (Below.refl _ _).alloc (Nat.le_refl _) _
  go_enter Tryz.func77, Tryz.ntmps77
  go_wp2
  rw [← hg]
  clear hg
  generalize w.alloc (.cells Tryz.zeroCells132 132) = wa at HR0 HB0 ⊢
  go_loopw [10] (fun q wr => ∃ k : Nat, k ≤ l.length ∧ q = .int .i64 k ∧ ∃ s : Nat → Nat, Row wr g 80 (fun i => .int .u8 ((s i : Nat) : Int)) ∧ Sets l k s ∧ Below w.heap.size w wr) (fun q _ => l.length - (intOf q).toNat)
  case atStart => exact ⟨0, Nat.zero_le _, rfl, _, HR0.out, ⟨fun i hi => by omega, fun i _ => rfl⟩, HB0.out⟩
  case round =>
    clear HR0 HB0
    obtain ⟨k, hk, rfl, s, hr, hs, hb⟩ := hrel
    have HR : Hid (Row wr g 80 (fun i => .int .u8 ((s i : Nat) : Int))) := hr
    have HS : Hid (Sets l k s) := hs
    have HB : Hid (Below w.heap.size w wr) := hb
    clear hr hs hb
    have hgl : g < wr.heap.size := HR.out.lt (by omega)
    by_cases hlt : k < l.length
    · have hlz : (k : Int) < (l.length : Int) := by omega
      have hk80 : (k : Int) < 80 := by omega
      rcases (HN.out.below HB.out).2 with h0 | ⟨xb, xo, rfl, hc⟩
      · omega
      obtain ⟨p0, p1, p2, p3, p4, p5⟩ := hc k hlt
      rw [nth_get hlt] at p0 p1 p2 p3 p4 p5
      clear hc
      have HPO := parts_ok (term_node HT.out hlt)
      have HV : Hid ((nth l k).op = 1 ∨ quant (nth l k).op = true → ∃ kk : Nat, (nth l k).k = (kk : Int) ∧ kk ≤ 7) := fun h => var_of (term_node HT.out hlt) h
      have HNX : Hid (∀ s' x, Has x (freeRow (freeRows l k) (nth l k)) → (∀ i, s' i = if i = k then x else s i) → Sets l (k + 1) s') := fun s' x h1 h2 => sets_next HS.out h1 h2
      generalize hn : nth l k = n at p0 p1 p2 p3 p4 p5 HPO HV HNX
      clear hn
      have HPO' : Hid (∀ j (hj : j < (parts n).length), 0 ≤ (parts n)[j] ∧ (parts n)[j] < k) := HPO
      clear HPO
      have hgn : ¬ g = wr.heap.size := by omega
      obtain ⟨c1, c2⟩ := HR.out k (by omega)
      by_cases h1 : n.op = 1
      · obtain ⟨kk, hkk, hk7⟩ := HV.out (.inl h1)
        have h1b : (n.op == 1) = true := by simpa using h1
        rw [hkk] at p2
        have HX : Hid (Some_ (2 ^ kk) (freeRows l k) n 0) := some_start_var h1 hkk hk7
        have HP0 : Hid (parts n = []) := parts_none (by omega) (by omega) (by omega)
        have HQ0 : Hid ((n.op == 19 || n.op == 20) = false) := by show _ = _; simp [h1]
        have hpe : (parts ⟨1, n.w, (kk : Int), n.a, n.b, n.c⟩).length = 0 := by
          rw [parts_none (by simp) (by simp) (by simp)]; rfl
        have HRX : Hid (Row (wr.setCell ⟨g, k, none⟩ (.int .u8 (2 ^ kk))) g 80 (fun i => .int .u8 (((fun i => if i = k then 2 ^ kk else s i) i : Nat) : Int))) := by
          refine (HR.out.set (by omega) _).congr (fun i hi => ?_)
          by_cases e : i = k
          · simp [e]
          · simp [e]
        have HBX : Hid (Below w.heap.size w (wr.setCell ⟨g, k, none⟩ (.int .u8 (2 ^ kk)))) :=
          HB.out.trans (((Kept.refl (fun b => b = g) wr).setCell (p := ⟨g, k, none⟩) rfl _).below (fun b hb => by have := HG.out; omega) HB.out.size)
        have hsz : (wr.setCell ⟨g, k, none⟩ (.int .u8 (2 ^ kk))).heap.size = wr.heap.size := by simp [World.setCell]
        have HSZ : Hid ((wr.setCell ⟨g, k, none⟩ (.int .u8 (2 ^ kk))).heap.size = wr.heap.size) := hsz
        clear hsz
        go_wp2_with (go_at_call 61; refine (iJust kk _ hk7).mono ?_; rintro e w' ⟨rfl, rfl⟩)
        generalize wr.setCell ⟨g, k, none⟩ (.int .u8 (2 ^ kk)) = wc at HRX HBX HSZ ⊢
        refine (iParts ⟨1, n.w, (kk : Int), n.a, n.b, n.c⟩ _).mono ?_
        rintro e w2 ⟨⟨pa, pc, rfl, hpi⟩, hb2⟩
        have hcs : wr.heap.size < (wc.alloc (.cells #[.int .i64 1, .int .i64 n.w, .int .i64 kk, .int .i64 n.a, .int .i64 n.b, .int .i64 n.c] 53)).heap.size := by
          have := HSZ.out; simp; omega
        have b0 : w2.cell? ⟨wr.heap.size, 0, none⟩ = some (.int .i64 1) := by
          rw [hb2.cell hcs, ← HSZ.out, World.cell?_alloc_new]; rfl
        have HR2 : Hid (Row w2 g 80 (fun i => .int .u8 (((fun i => if i = k then 2 ^ kk else s i) i : Nat) : Int))) := (HRX.out.below ((Below.refl _ _).alloc (Nat.le_refl _) _)).below hb2
        have HB2 : Hid (Below w.heap.size w w2) := (HBX.out.alloc (by have := HSZ.out; have := HB.out.size; omega) _).trans (hb2.mono (by have := HSZ.out; have := HB.out.size; simp; omega))
        clear hpi hb2 hcs p0 p1 p2 p3 p4 p5 c1 c2
        have hq : quant 1 = false := by decide
        go_wp2_with fail
        go_loopw [26] (fun q wq => q = .int .i64 0 ∧ wq = w2) (fun _ _ => 0)
        case atStart => exact ⟨rfl, rfl⟩
        case round =>
          obtain ⟨rfl, rfl⟩ := hrel
          go_wp2_with (go_at_call 97; refine (iQuant _ _).mono ?_; rintro e w' ⟨rfl, rfl⟩; rw [hq])
          go_roundw
          case rel => exact ⟨k + 1, by omega, by go_num, _, HR2.out, HNX.out _ _ (some_end HX.out (by rw [HP0.out]; simp) HQ0.out) (fun i => rfl), HB2.out⟩
          case measure => simp [intOf]; omega
      · have h1b : (n.op == 1) = false := by simpa using h1
        obtain ⟨wb, rfl⟩ : ∃ wb : World, wb = wr := ⟨_, rfl⟩
        go_wp2_with fail
        refine (iParts n _).mono ?_
        rintro e w2 ⟨⟨pa, pc, rfl, hpi⟩, hb2⟩
        have hBA : Below wb.heap.size wb (wb.alloc (.cells #[.int .i64 n.op, .int .i64 n.w, .int .i64 n.k, .int .i64 n.a, .int .i64 n.b, .int .i64 n.c] 53)) := (Below.refl _ _).alloc (Nat.le_refl _) _
        have HP : Hid (IntsIn w2 (wb.heap.size + 1) w2.heap.size pa (parts n)) := by
          have h9 := hpi.within
          simp at h9
          exact h9
        have HR2 : Hid (Row w2 g 80 (fun i => .int .u8 ((s i : Nat) : Int))) := (HR.out.below hBA).below hb2
        have HB2 : Hid (Below w.heap.size w w2) := (HB.out.trans (hBA.mono HB.out.size)).trans (hb2.mono (by have := HB.out.size; simp; omega))
        have hcs : wb.heap.size < (wb.alloc (.cells #[.int .i64 n.op, .int .i64 n.w, .int .i64 n.k, .int .i64 n.a, .int .i64 n.b, .int .i64 n.c] 53)).heap.size := by simp
        have HC0 : Hid (w2.cell? ⟨wb.heap.size, 0, none⟩ = some (.int .i64 n.op)) := by
          show _ = _
          rw [hb2.cell hcs, World.cell?_alloc_new]; rfl
        have HC2 : Hid (w2.cell? ⟨wb.heap.size, 2, none⟩ = some (.int .i64 n.k)) := by
          show _ = _
          rw [hb2.cell hcs, World.cell?_alloc_new]; rfl
        have HS2 : Hid (wb.heap.size < w2.heap.size) := Nat.lt_of_lt_of_le hcs hb2.size
        have HX0 : Hid (Some_ 0 (freeRows l k) n 0) := some_start h1b
        clear hpi hb2 hBA hcs p0 p1 p2 p3 p4 p5 c1 c2 h1b
        have hpl := parts_le n
        go_wp2_with fail
        go_loopw [26] (fun q wq => ∃ j : Nat, j ≤ (parts n).length ∧ q = .int .i64 j ∧ ∃ x : Nat, Some_ x (freeRows l k) n j ∧ Row wq g 80 (fun i => .int .u8 (((fun i => if i = k then x else s i) i : Nat) : Int)) ∧ Kept (fun b => b = g) w2 wq) (fun q _ => (parts n).length - (intOf q).toNat)
        case atStart =>
          refine ⟨0, Nat.zero_le _, rfl, 0, HX0.out, HR2.out.congr (fun i hi => ?_), Kept.refl _ _⟩
          by_cases e : i = k
          · subst e
            have := HS.out.2 i (Nat.le_refl _)
            simp [this]
          · simp [e]
        case round =>
          obtain ⟨j, hj, rfl, x, hx, hrx, hkx⟩ := hrel
          have HX : Hid (Some_ x (freeRows l k) n j) := hx
          have HRX : Hid (Row wr g 80 (fun i => .int .u8 (((fun i => if i = k then x else s i) i : Nat) : Int))) := hrx
          have HKX : Hid (Kept (fun b => b = g) w2 wr) := hkx
          have hx256 := hx.1
          clear hx hrx hkx
          have HBX : Hid (Below w.heap.size w wr) := HB2.out.trans (HKX.out.below (fun b hb => by have := HG.out; omega) HB2.out.size)
          obtain ⟨c1, c2⟩ := HRX.out k (by omega)
          simp only [if_true] at c1 c2
          by_cases hlt2 : j < (parts n).length
          · have hjz : (j : Int) < ((parts n).length : Int) := by omega
            rcases (HP.out.kept HKX.out (fun b h1 h2 e => by omega)).2 with h0 | ⟨pb, po, rfl, hpB, hpU, hpc⟩
            · omega
            have q0 := (hpc j hlt2).1
            obtain ⟨hy0, hy1⟩ := HPO'.out j hlt2
            have HNXT : Hid (∀ t, Has t (row (freeRows l k) (parts n)[j]) → Some_ (x ||| t) (freeRows l k) n (j + 1)) := fun t ht => some_next HX.out hlt2 ht
            clear hpc hpB hpU
            generalize (parts n)[j] = y at q0 hy0 hy1 HNXT
            obtain ⟨jy, rfl⟩ := Int.eq_ofNat_of_zero_le hy0
            have hjk : jy < k := by omega
            have hy80 : (jy : Int) < 80 := by omega
            have HHY : Hid (Has (s jy) (row (freeRows l k) (jy : Int))) := HS.out.1 jy hjk
            obtain ⟨d1, _⟩ := HRX.out jy (by omega)
            have hne : ¬ jy = k := by omega
            simp only [if_neg hne] at d1
            have hs256 := HHY.out.1
            have hor : bits .or .u8 (x : Int) (s jy : Int) = ((x ||| s jy : Nat) : Int) := bits_or_u8_nat _ _ hx256 hs256
            clear hy0 hy1
            have HEND : Hid (∃ x', Some_ x' (freeRows l k) n (j + 1) ∧ x' = x ||| s jy) := ⟨_, HNXT.out _ HHY.out, rfl⟩
            generalize x ||| s jy = z at hor HEND
            generalize s jy = y at *
            go_wp2
            go_region
            all_goals
              go_wp2
              go_roundw
              case rel =>
                obtain ⟨x', hx', rfl⟩ := HEND.out
                refine ⟨j + 1, by omega, by go_num, x', hx', ?_, (HKX.out.setCell (p := ⟨g, k, none⟩) rfl _).drew⟩
                refine Row.drew ((HRX.out.set (by omega) _).congr (fun i hi => ?_))
                by_cases e : i = k
                · simp [e]
                · simp [e]
              case measure => simp [intOf]; omega
          · have hjz : ¬ (j : Int) < ((parts n).length : Int) := by omega
            have b0 : wr.cell? ⟨wb.heap.size, 0, none⟩ = some (.int .i64 n.op) := by
              rw [HKX.out.cell (p := ⟨wb.heap.size, 0, none⟩) HS2.out (fun e => by simp at e; omega)]; exact HC0.out
            cases hq : quant n.op
            · go_wp2_with (go_at_call 97; refine (iQuant _ _).mono ?_; rintro e w' ⟨rfl, rfl⟩; rw [hq])
              go_roundw
              case rel => exact ⟨k + 1, by omega, by go_num, _, HRX.out, HNX.out _ _ (some_end HX.out (by omega) hq) (fun i => rfl), HBX.out⟩
              case measure => simp [intOf]; omega
            · obtain ⟨kk, hkk, hk7⟩ := HV.out (.inr hq)
              have b2 : wr.cell? ⟨wb.heap.size, 2, none⟩ = some (.int .i64 kk) := by
                rw [HKX.out.cell (p := ⟨wb.heap.size, 2, none⟩) HS2.out (fun e => by simp at e; omega), ← hkk]; exact HC2.out
              have HH : Hid (Has (x &&& (255 - 2 ^ kk)) (freeRow (freeRows l k) n)) := some_end_quant HX.out (by omega) hq hkk hk7
              have e256 : 2 ^ kk < 256 := Nat.lt_of_le_of_lt (Nat.pow_le_pow_right (n := 2) (by omega) hk7) (by decide)
              have hand : bits .andNot .u8 (x : Int) ((2 ^ kk : Nat) : Int) = ((x &&& (255 - 2 ^ kk) : Nat) : Int) := bits_andNot_u8_nat _ _ hx256 e256
              obtain ⟨pw, hpw⟩ : ∃ pw : Nat, pw = 2 ^ kk := ⟨_, rfl⟩
              have HJ : Hid (∀ w : World, Calls Tryz.prog 61 #[.int .i64 kk] w fun e w' => e = .returned (.int .u8 (pw : Int)) ∧ w' = w) := by
                rw [hpw]; exact fun w => iJust kk w hk7
              rw [← hpw] at hand HH
              clear hpw e256
              generalize x &&& (255 - pw) = z at hand HH
              clear hkk
              go_wp2_with (go_at_call 97; refine (iQuant _ _).mono ?_; rintro e w' ⟨rfl, rfl⟩; rw [hq])
              go_region_with (go_at_call 61; refine (HJ.out _).mono ?_; rintro e w' ⟨rfl, rfl⟩)
              all_goals
                go_wp2
                go_roundw
                case rel =>
                  refine ⟨k + 1, by omega, by go_num, (fun i => if i = k then z else s i), ?_, HNX.out _ _ HH.out (fun i => rfl), ?_⟩
                  · refine Row.drew ((HRX.out.set (by omega) _).congr (fun i hi => ?_))
                    by_cases e : i = k
                    · simp [e]
                    · simp [e]
                  · exact (HBX.out.trans (((Kept.refl (fun b => b = g) _).setCell (p := ⟨g, k, none⟩) rfl _).below (fun b (hb : b = g) => by have := HG.out; omega) HBX.out.size)).drew
                case measure => simp [intOf]; omega
    · have e2 : k = l.length := by omega
      subst e2
      have cI : wr.cell? ⟨g, l.length - 1, none⟩ = some (.int .u8 ((s (l.length - 1) : Nat) : Int)) := (HR.out (l.length - 1) (by omega)).1
      have HH : Hid (Has (s (l.length - 1)) (freeTop l)) := by
        have h9 := HS.out.1 (l.length - 1) (by omega)
        have e : ((l.length - 1 : Nat) : Int) = (l.length : Int) - 1 := by omega
        rw [e] at h9
        exact h9
      have g1 : (0 : Int) ≤ (l.length : Int) - 1 := by omega
      have g2 : (l.length : Int) - 1 < 80 := by omega
      go_wp2
      go_ret
      exact ⟨⟨_, rfl, HH.out⟩, HB.out⟩

end Go.Proofs.YtejgcchkhljnjaaGreat.Pg9
