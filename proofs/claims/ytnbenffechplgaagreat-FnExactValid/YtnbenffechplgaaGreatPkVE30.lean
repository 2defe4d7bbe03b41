/- Small texts of mine, one behind the other. -/
import Derived.Shelf.Abstract
import Derived.Deep.CutBlock
import Derived.Test.YtnbenffechplgaaGreatPkVE26
import Derived.Test.YtnbenffechplgaaGreatPkVE5
import Derived.Test.YtnbenffechplgaaGreatPkVE29
import Derived.Test.YtnbenffechplgaaGreatPkVE27
import Derived.Test.YtnbenffechplgaaGreatPkVE14
/- The program's walk over a term, for nodes. -/
namespace Go.Proofs.YtnbenffechplgaaGreat.Aw2
open Go.RowKit
open Nd0 Nd3 Pl1 Tm0 Tm1 Tm8 Pg1 Pg2 Aq0
open Ap2 (app_node)
open Nd4 (makeNodes zeros zeros_get)
open Aw1 (nv)
set_option linter.unusedVariables false

def RowN (w : World) (g n : Nat) (f : Nat → Nd) : Prop := ∀ i, i < n → NodeAt w g (i * 6) (f i) ∧ ∀ j, j < 6 → w.frozen? ⟨g, i * 6 + j, none⟩ = false
theorem RowN.kept {w w' : World} {g n : Nat} {f : Nat → Nd} (h : RowN w g n f) {S : Nat → Prop} (k : Kept S w w') (hs : ¬ S g) : RowN w' g n f := fun i hi => by
  obtain ⟨⟨c0, c1, c2, c3, c4, c5⟩, hf⟩ := h i hi
  have hb : g < w.heap.size := lt_of_cell (p := ⟨g, i * 6, none⟩) c0
  exact ⟨⟨by rw [k.cell hb hs]; exact c0, by rw [k.cell hb hs]; exact c1, by rw [k.cell hb hs]; exact c2, by rw [k.cell hb hs]; exact c3, by rw [k.cell hb hs]; exact c4, by rw [k.cell hb hs]; exact c5⟩, fun j hj => by rw [k.frozen (p := ⟨g, i * 6 + j, none⟩) hb hs]; exact hf j hj⟩
theorem RowN.below {w w' : World} {g n : Nat} {f : Nat → Nd} (h : RowN w g n f) (k : Below w.heap.size w w') : RowN w' g n f := h.kept (S := fun _ => False) (Kept.ofBelow k) (fun h => h)
theorem RowN.congr {w : World} {g n : Nat} {f f' : Nat → Nd} (h : RowN w g n f) (e : ∀ i, i < n → f i = f' i) : RowN w g n f' := fun i hi => by rw [← e i hi]; exact h i hi
theorem RowN.lt {w : World} {g n : Nat} {f : Nat → Nd} (h : RowN w g n f) (hn : 0 < n) : g < w.heap.size := (h 0 hn).1.lt
theorem RowN.set {w : World} {g n : Nat} {f : Nat → Nd} (h : RowN w g n f) {p : Nat} (hp : p < n) (v : Nd) : RowN (setNode w g (p * 6) v) g n (fun i => if i = p then v else f i) := by
  intro i hi
  refine ⟨?_, fun j hj => by rw [setNode_frozen]; exact (h i hi).2 j hj⟩
  by_cases e : i = p
  · subst e
    dsimp only
    rw [if_pos rfl]
    exact setNode_same (h i hi).1
  · dsimp only
    rw [if_neg e]
    exact setNode_other (h i hi).1 (by omega)
theorem RowN.new (w : World) (n T : Nat) : RowN (w.alloc (.cells (zeros n) T)) w.heap.size n (fun _ => Nd.zero) := fun i hi => ⟨Nd4.zeros_at w n T i hi, fun j hj => by simp⟩

def TellN (w0 : World) (k : Nat) (cap : Array Value) (l : List Nd) (F : Nat → Nd → List Nd → Nd) : Prop :=
  ∀ (W : World) (i : Nat) (a : Option Addr) (c : Nat), i < l.length → Below w0.heap.size w0 W → Nodes W a (said Nd.zero F l i) →
    Calls Tryz.prog k (#[.int .i64 (i : Int), nv (nth l i), .slice a (said Nd.zero F l i).length c] ++ cap) W fun e w' => e = .returned (nv (F i (nth l i) (said Nd.zero F l i))) ∧ Below W.heap.size W w'

set_option maxRecDepth 100000 in
set_option maxHeartbeats 4000000 in
theorem wNode (k : Nat) (cap : Array Value) (F : Nat → Nd → List Nd → Nd) (w : World) (a : Option Addr) (l : List Nd) (c : Nat) (hN : Nodes w a l) (hD : Down l) (hl : l.length ≤ 1048576)
    (hk : ∀ args w, (callFunc k args).run Tryz.prog w = .ok (.enter k args) w) (hT : TellN w k cap l F) :
    Calls Tryz.prog 40 #[.slice a l.length c, .func (.func k) #[] cap] w fun e w' => (∃ a', e = .returned (.slice a' l.length l.length) ∧ WNodes w' w.heap.size a' (wk Nd.zero F l l.length)) ∧ Below w.heap.size w w' := by
  have HN : Hid (Nodes w a l) := hN
  have HD : Hid (Down l) := hD
  have HT : Hid (TellN w k cap l F) := hT
  clear hN hD hT
  have hmk := makeNodes l.length hl w
  obtain ⟨g, hg⟩ : ∃ g : Nat, g = w.heap.size := ⟨_, rfl⟩
  have HG : Hid (g = w.heap.size) := hg
  have HR0 : Hid (RowN (w.alloc (.cells (zeros l.length) 35)) g l.length (fun i => (wk Nd.zero F l 0).getD i Nd.zero)) := by
    rw [hg]
    exact RowN.new _ _ _
  have HB0 : Hid (Below w.heap.size w (w.alloc (.cells (zeros l.length) 35))) := (Below.refl _ _).alloc (Nat.le_refl _) _
  go_enter Tryz.func40, Tryz.ntmps40
  go_wp2_with fail
  clear hmk
  rw [← hg]
  clear hg
  generalize w.alloc (.cells (zeros l.length) 35) = wa at HR0 HB0 ⊢
  go_loopw [16] (fun q wr => ∃ j : Nat, j ≤ l.length ∧ q = .int .i64 j ∧ RowN wr g l.length (fun i => (wk Nd.zero F l j).getD i Nd.zero) ∧ Below w.heap.size w wr) (fun q _ => l.length - (intOf q).toNat)
  case atStart => exact ⟨0, Nat.zero_le _, rfl, HR0.out, HB0.out⟩
  case round =>
    clear HR0 HB0
    obtain ⟨j, hj, rfl, hr, hb⟩ := hrel
    obtain ⟨wb, rfl⟩ : ∃ wb : World, wb = wr := ⟨_, rfl⟩
    have HR : Hid (RowN wb g l.length (fun i => (wk Nd.zero F l j).getD i Nd.zero)) := hr
    have HB : Hid (Below w.heap.size w wb) := hb
    have hBs : w.heap.size ≤ wb.heap.size := hb.size
    clear hr hb
    by_cases hlt : j < l.length
    · have hlz : (j : Int) < (l.length : Int) := by omega
      rcases (HN.out.below HB.out).2 with h0 | ⟨xb, xo, rfl, hc⟩
      · omega
      obtain ⟨p0, p1, p2, p3, p4, p5⟩ := hc j hlt
      rw [nth_get hlt] at p0 p1 p2 p3 p4 p5
      clear hc
      have HDJ : Hid (∀ p ∈ parts (nth l j), 0 ≤ p ∧ p < (j : Int)) := HD.out j hlt
      have HSA : Hid (said Nd.zero F l j = (parts (nth l j)).map fun p => (wk Nd.zero F l j).getD p.toNat Nd.zero) := rfl
      have HTJ : Hid (∀ (W : World) (a : Option Addr) (c : Nat), Below w.heap.size w W → Nodes W a (said Nd.zero F l j) →
        Calls Tryz.prog k (#[.int .i64 (j : Int), nv (nth l j), .slice a (said Nd.zero F l j).length c] ++ cap) W fun e w' => e = .returned (nv (F j (nth l j) (said Nd.zero F l j))) ∧ Below W.heap.size W w') := fun W a c h1 h2 => HT.out W j a c hlt h1 h2
      have HWK : Hid (∀ i, (wk Nd.zero F l (j + 1)).getD i Nd.zero = if i = j then F j (nth l j) (said Nd.zero F l j) else (wk Nd.zero F l j).getD i Nd.zero) := fun i => wk_set Nd.zero F l j i
      generalize hn : nth l j = n at p0 p1 p2 p3 p4 p5 HDJ HSA HTJ HWK
      clear hn
      generalize F j n (said Nd.zero F l j) = y at HTJ HWK
      generalize said Nd.zero F l j = sd at HSA HTJ
      have hX : ∃ X : Nat → Nd, X = fun i => (wk Nd.zero F l j).getD i Nd.zero := ⟨_, rfl⟩
      obtain ⟨X, hX⟩ := hX
      have HRX : Hid (RowN wb g l.length X) := by rw [hX]; exact HR.out
      have HSX : Hid (sd = (parts n).map fun p => X p.toNat) := by show _ = _; rw [hX]; exact HSA.out
      have HWX : Hid (∀ i, (wk Nd.zero F l (j + 1)).getD i Nd.zero = if i = j then y else X i) := by rw [hX]; exact HWK.out
      clear hX HSA HWK HR
      have hgl : g < wb.heap.size := HRX.out.lt (by omega)
      obtain ⟨W1, hW1⟩ : ∃ W1 : World, W1 = wb.alloc (.cells #[.int .i64 n.op, .int .i64 n.w, .int .i64 n.k, .int .i64 n.a, .int .i64 n.b, .int .i64 n.c] 35) := ⟨_, rfl⟩
      have hs1 : W1.heap.size = wb.heap.size + 1 := by rw [hW1]; simp
      have HB1 : Hid (Below wb.heap.size wb W1) := by rw [hW1]; exact (Below.refl _ _).alloc (Nat.le_refl _) _
      have HNB : Hid (NodeAt W1 wb.heap.size 0 n) := by rw [hW1]; exact ⟨by simp, by simp, by simp, by simp, by simp, by simp⟩
      obtain ⟨W2, hW2⟩ : ∃ W2 : World, W2 = W1.alloc (.cells #[] 35) := ⟨_, rfl⟩
      have hs2 : W2.heap.size = wb.heap.size + 2 := by rw [hW2]; simp [hs1]
      have HB2 : Hid (Below W1.heap.size W1 W2) := by rw [hW2]; exact (Below.refl _ _).alloc (Nat.le_refl _) _
      have HO2 : Hid (Ap2.Own W2 W1.heap.size (.slice (some ⟨wb.heap.size + 1, 0, none⟩) 0 0) []) := by rw [← hs1, hW2]; exact Ap2.Own.lit W1 _ (Nat.le_refl _)
      go_wp2_with fail
      rw [← hW1, ← hW2]
      refine (iParts n W2).mono ?_
      rintro e W3 ⟨⟨pa, pc, rfl, hpi⟩, hb3⟩
      have hs3 := hb3.size
      have HP3 : Hid (IntsIn W3 W2.heap.size W3.heap.size pa (parts n)) := hpi.within
      have HO3 : Hid (Ap2.Own W3 W1.heap.size (.slice (some ⟨wb.heap.size + 1, 0, none⟩) 0 0) []) := HO2.out.kept (S := fun _ => False) (Kept.ofBelow hb3) (fun _ _ h => h)
      have HB3 : Hid (Below W1.heap.size W1 W3) := HB2.out.trans (hb3.mono (by omega))
      have hpl := parts_le n
      clear hpi hb3 HB2 HO2 hW1 hW2 p0 p1 p2 p3 p4 p5
      go_wp2_with fail
      go_loopw [8, 25] (fun v q wq => ∃ m : Nat, m ≤ (parts n).length ∧ q = .int .i64 m ∧ Ap2.Own wq W1.heap.size v (((parts n).take m).map fun p => X p.toNat) ∧ Below W1.heap.size W1 wq ∧ IntsIn wq W2.heap.size W3.heap.size pa (parts n) ∧ W3.heap.size ≤ wq.heap.size ∧ ∀ x, v.ownBlock = some x → x < W2.heap.size ∨ W3.heap.size ≤ x) (fun _ q _ => (parts n).length - (intOf q).toNat)
      case atStart => exact ⟨0, Nat.zero_le _, rfl, HO3.out, HB3.out, HP3.out, Nat.le_refl _, fun x hx => by cases hx; exact .inl (by simp; omega)⟩
      case round =>
        clear HO3 HB3 HP3
        obtain ⟨m, hm, rfl, ho, hb, hi, hsz, hne⟩ := hrel
        have HBQ : Hid (Below W1.heap.size W1 wr) := hb
        have HIQ : Hid (IntsIn wr W2.heap.size W3.heap.size pa (parts n)) := hi
        have HRQ : Hid (RowN wr g l.length X) := (HRX.out.below HB1.out).below hb
        have HBW : Hid (Below w.heap.size w wr) := (HB.out.trans (HB1.out.mono hBs)).trans (hb.mono (by omega))
        have hB1 : W1.heap.size ≤ wr.heap.size := hb.size
        clear hb hi
        obtain ⟨ao, co, rfl, hwn⟩ := ho.form
        have HO : Hid (Ap2.Own wr W1.heap.size (.slice ao (((parts n).take m).map fun p => X p.toNat).length co) (((parts n).take m).map fun p => X p.toNat)) := ho
        have HNE : Hid (∀ x, (Value.slice ao (((parts n).take m).map fun p => X p.toNat).length co).ownBlock = some x → x < W2.heap.size ∨ W3.heap.size ≤ x) := hne
        have HLJ : Hid ((((parts n).take m).map fun p => X p.toNat).length = m) := by
          show _ = _
          rw [List.length_map, List.length_take]; omega
        clear ho hne
        by_cases hlt2 : m < (parts n).length
        · have hmz : (m : Int) < ((parts n).length : Int) := by omega
          clear hwn
          rcases HIQ.out.2 with h0 | ⟨pb, po, rfl, hpB, hpU, hpc⟩
          · omega
          have q0 := (hpc m hlt2).1
          have HPM := HDJ.out _ (List.getElem_mem hlt2)
          have HTK : Hid (((parts n).take (m + 1)).map (fun p => X p.toNat) = (((parts n).take m).map fun p => X p.toNat) ++ [X (parts n)[m].toNat]) := by
            show _ = _
            rw [List.take_succ_eq_append_getElem hlt2, List.map_append]; rfl
          obtain ⟨hy0, hy1⟩ := HPM
          generalize (parts n)[m] = yp at q0 hy0 hy1 HTK
          generalize (((parts n).take m).map fun p => X p.toNat) = L at HO HNE HLJ HTK ⊢
          clear hpc
          obtain ⟨jy, rfl⟩ := Int.eq_ofNat_of_zero_le hy0
          rw [Int.toNat_natCast] at HTK
          have c9 : NodeAt wr g (jy * 6) (X jy) := (HRQ.out jy (by omega)).1
          have hyl : (jy : Int) < (l.length : Int) := by omega
          have hLl : L.length ≤ 1048576 := by have := HLJ.out; omega
          generalize X jy = z at c9 HTK
          obtain ⟨c0, c1, c2, c3, c4, c5⟩ := c9
          go_wp2_with (at_builtin; go_must (refine app_node _ rfl _ _ rfl W1.heap.size (.slice ao L.length co) L z rfl _ rfl rfl HO.out hB1 hLl ?_; intro g5 cp5 w5 ho5 hk5 hg5))
          have HO5 : Hid (Ap2.Own w5 W1.heap.size (.slice (some ⟨g5, 0, none⟩) (L.length + 1) cp5) (L ++ [z])) := ho5
          have HK5 : Hid (Kept (fun k => (Value.slice ao L.length co).ownBlock = some k) wr w5) := hk5
          have HG5 : Hid ((Value.slice ao L.length co).ownBlock = some g5 ∨ wr.heap.size ≤ g5) := hg5
          clear ho5 hk5 hg5
          go_wp2
          go_roundw
          case rel =>
            refine ⟨m + 1, by omega, by go_num, by rw [HTK.out]; exact HO5.out, HBQ.out.trans (HK5.out.below (fun b hb => (HO.out.lt b hb).1) hB1), HIQ.out.kept HK5.out (fun b h1 h2 e => by have := HNE.out b e; omega), by have := HK5.out.size; omega, fun b hb => ?_⟩
            cases hb
            rcases HG5.out with e | e
            · exact HNE.out _ e
            · exact .inr (by show _ ≤ g5; omega)
          case measure => simp [intOf]; omega
        · have hmz : ¬ (m : Int) < ((parts n).length : Int) := by omega
          have hme : m = (parts n).length := by omega
          have HLS : Hid ((((parts n).take m).map fun p => X p.toNat) = sd) := by show _ = _; rw [HSX.out, List.take_of_length_le (by omega)]
          clear HO HNE HLJ hme
          rw [HLS.out] at hwn ⊢
          have HWN : Hid (WNodes wr W1.heap.size ao sd) := hwn
          obtain ⟨b0, b1, b2, b3, b4, b5⟩ := HNB.out.below HBQ.out (by omega)
          clear hwn
          go_wp2_with fail
          refine (HTJ.out wr ao co HBW.out HWN.out.nodes).mono ?_
          rintro e w6 ⟨rfl, hb6⟩
          have HB6 : Hid (Below w.heap.size w w6) := HBW.out.trans (hb6.mono (by omega))
          have HR6 : Hid (RowN w6 g l.length X) := HRQ.out.below hb6
          obtain ⟨⟨c0, c1, c2, c3, c4, c5⟩, hfz⟩ := HR6.out j hlt
          have f0 := hfz 0 (by omega)
          have f1 := hfz 1 (by omega)
          have f2 := hfz 2 (by omega)
          have f3 := hfz 3 (by omega)
          have f4 := hfz 4 (by omega)
          have f5 := hfz 5 (by omega)
          rw [Nat.add_zero] at f0
          clear hfz
          clear hb6 b0 b1 b2 b3 b4 b5
          go_wp2_with fail
          go_roundw
          case rel =>
            refine ⟨j + 1, by omega, by go_num, ?_, HB6.out.trans ((setNode_keptS (S := fun b => b = g) (b := g) (p := j * 6) (n := y) rfl (Kept.refl _ w6)).below (fun b (hb : b = g) => by have := HG.out; omega) HB6.out.size)⟩
            refine (HR6.out.set hlt _).congr (fun i hi => ?_)
            rw [HWX.out]
          case measure => simp [intOf]; omega
    · have e2 : j = l.length := by omega
      subst e2
      go_wp2
      go_ret
      refine ⟨⟨_, rfl, ⟨by rw [wk_length]; unfold maxLen; omega, .inr ⟨g, 0, rfl, by have := HG.out; omega, fun i hi => ?_, fun j hj => ?_⟩⟩⟩, HB.out⟩
      · have h9 := HR.out i (by rw [wk_length] at hi; exact hi)
        dsimp only at h9
        rw [List.getD_eq_getElem?_getD, List.getElem?_eq_getElem hi] at h9
        rw [Nat.zero_add]
        exact h9.1
      · rw [wk_length] at hj
        have h9 := (HR.out (j / 6) (by omega)).2 (j % 6) (Nat.mod_lt _ (by omega))
        rw [Nat.zero_add]
        have e : j / 6 * 6 + j % 6 = j := by omega
        rw [e] at h9
        exact h9

end Go.Proofs.YtnbenffechplgaaGreat.Aw2

/- The program's joinTerms, of two terms. -/
namespace Go.Proofs.YtnbenffechplgaaGreat.Pb10
open Go.RowKit
open Nd0 Nd3 Tm0 Tm8 Rw0 Ap0 Ap15 Aq0 Aq1 Aw2 Pg1
open Aw1 (nv TellI wInt)
open Ap2 (Own)
open Pg10 (mv)
open Tm3 (parts_cases)
set_option linter.unusedVariables false

theorem mv_sh (m : Nat) (n : Nd) (hp : ∀ p ∈ parts n, 0 ≤ p) : mv (fun i => (m : Int) + i) n = shN (m : Int) n := by
  have hc := cnt_parts n
  unfold mv shN
  rw [hc]
  have ha : 0 < cnt n.op → 0 ≤ n.a := fun h => hp _ (by
    rcases Tm3.parts_cases n with e | e | e | e <;> rw [e] at hc ⊢ <;> simp at hc ⊢
    omega)
  have hb : 1 < cnt n.op → 0 ≤ n.b := fun h => hp _ (by
    rcases Tm3.parts_cases n with e | e | e | e <;> rw [e] at hc ⊢ <;> simp at hc ⊢ <;> omega)
  have hd : 2 < cnt n.op → 0 ≤ n.c := fun h => hp _ (by
    rcases Tm3.parts_cases n with e | e | e | e <;> rw [e] at hc ⊢ <;> simp at hc ⊢ <;> omega)
  have e1 : (if 0 < cnt n.op then (m : Int) + (n.a.toNat : Int) else n.a) = if 0 < cnt n.op then n.a + (m : Int) else n.a := by
    split
    · have := ha ‹_›; omega
    · rfl
  have e2 : (if 1 < cnt n.op then (m : Int) + (n.b.toNat : Int) else n.b) = if 1 < cnt n.op then n.b + (m : Int) else n.b := by
    split
    · have := hb ‹_›; omega
    · rfl
  have e3 : (if 2 < cnt n.op then (m : Int) + (n.c.toNat : Int) else n.c) = if 2 < cnt n.op then n.c + (m : Int) else n.c := by
    split
    · have := hd ‹_›; omega
    · rfl
  simp only [e1, e2, e3]
theorem sh_zero (n : Nd) : shN 0 n = n := by
  unfold shN
  simp
theorem map_sh {l : List Nd} (hD : Down l) (m : Nat) : l.map (mv (fun i => (m : Int) + i)) = l.map (shN (m : Int)) := by
  apply List.map_congr_left
  intro n hn
  obtain ⟨i, hi, rfl⟩ := List.mem_iff_getElem.1 hn
  rw [nth_get hi]
  exact mv_sh m _ fun p hp => (hD i hi p hp).1

def plF (m : Nat) (i : Nat) (_ : Nd) (_ : List Int) : Int := (m : Int) + (i : Int)
theorem tellP (bx : Nat) (g : Option Addr) (m cp : Nat) (l : List Nd) (w0 : World) (hl : l.length ≤ 1048576) (hm : m ≤ 1048576) (hc : w0.cell? ⟨bx, 0, none⟩ = some (.slice g m cp)) :
    TellI w0 39 #[.pointer (some ⟨bx, 0, none⟩)] l (plF m) := by
  intro W i a c hi hB _
  have h1 : W.cell? ⟨bx, 0, none⟩ = some (.slice g m cp) := (hB.cell (lt_of_cell hc)).trans hc
  have hI : (i : Int) ≤ 1048576 := by omega
  have hs : W.heap.size ≤ W.heap.size := Nat.le_refl _
  generalize nth l i = n
  have HS : Hid ((said 0 (plF m) l i).length ≤ 1048577) := by
    show _ ≤ _
    rw [said_len]
    exact Nat.le_trans (parts_le _) (by omega)
  clear hB hc hs
  have h2 : (W.alloc (.cells #[.int .i64 n.op, .int .i64 n.w, .int .i64 n.k, .int .i64 n.a, .int .i64 n.b, .int .i64 n.c] 35)).cell? ⟨bx, 0, none⟩ = some (.slice g m cp) := by
    rw [World.cell?_alloc_old _ _ _ (Nat.ne_of_lt (lt_of_cell h1))]; exact h1
  have HB : Hid (Below W.heap.size W (W.alloc (.cells #[.int .i64 n.op, .int .i64 n.w, .int .i64 n.k, .int .i64 n.a, .int .i64 n.b, .int .i64 n.c] 35))) := (Below.refl _ _).alloc (Nat.le_refl _) _
  go_enter Tryz.func39, Tryz.ntmps39
  go_wp2
  go_ret
  exact ⟨rfl, HB.out⟩

set_option maxHeartbeats 4000000 in
theorem iMovedAt (n : Nd) (w : World) (gp go len cap : Nat) (P : Nat → Int) (hr : ∀ i, i < len → w.cell? ⟨gp, go + i, none⟩ = some (.int .i64 (P i))) (hp : ∀ p ∈ parts n, 0 ≤ p ∧ p < (len : Int)) (hl : len ≤ 80) :
    Calls Tryz.prog 42 #[.agg #[.int .i64 n.op, .int .i64 n.w, .int .i64 n.k, .int .i64 n.a, .int .i64 n.b, .int .i64 n.c], .slice (some ⟨gp, go, none⟩) len cap] w fun e w' =>
      e = .returned (.agg #[.int .i64 (mv P n).op, .int .i64 (mv P n).w, .int .i64 (mv P n).k, .int .i64 (mv P n).a, .int .i64 (mv P n).b, .int .i64 (mv P n).c]) ∧ Below w.heap.size w w' := by
  have hc3 := cnt_le n.op
  have hcp := cnt_parts n
  have HC : Hid (cnt n.op = 0 ∨ cnt n.op = 1 ∨ cnt n.op = 2 ∨ cnt n.op = 3) := by show _ ∨ _; omega
  have HV : Hid (mv P n = ⟨n.op, n.w, n.k, if 0 < cnt n.op then P n.a.toNat else n.a, if 1 < cnt n.op then P n.b.toNat else n.b, if 2 < cnt n.op then P n.c.toNat else n.c⟩) := rfl
  have HPC := parts_cases n
  have HA : Hid (0 < cnt n.op → ∃ j : Nat, n.a = (j : Int) ∧ j < len ∧ w.cell? ⟨gp, go + j, none⟩ = some (.int .i64 (P n.a.toNat))) := by
    show _ → _
    intro h
    have hm : n.a ∈ parts n := by
      rcases HPC with e | e | e | e
      · rw [e] at hcp; simp at hcp; omega
      · rw [e]; simp
      · rw [e]; simp
      · rw [e]; simp
    obtain ⟨h0, h1⟩ := hp _ hm
    exact ⟨n.a.toNat, by omega, by omega, hr n.a.toNat (by omega)⟩
  have HB : Hid (1 < cnt n.op → ∃ j : Nat, n.b = (j : Int) ∧ j < len ∧ w.cell? ⟨gp, go + j, none⟩ = some (.int .i64 (P n.b.toNat))) := by
    show _ → _
    intro h
    have hm : n.b ∈ parts n := by
      rcases HPC with e | e | e | e
      · rw [e] at hcp; simp at hcp; omega
      · rw [e] at hcp; simp at hcp; omega
      · rw [e]; simp
      · rw [e]; simp
    obtain ⟨h0, h1⟩ := hp _ hm
    exact ⟨n.b.toNat, by omega, by omega, hr n.b.toNat (by omega)⟩
  have HD : Hid (2 < cnt n.op → ∃ j : Nat, n.c = (j : Int) ∧ j < len ∧ w.cell? ⟨gp, go + j, none⟩ = some (.int .i64 (P n.c.toNat))) := by
    show _ → _
    intro h
    have hm : n.c ∈ parts n := by
      rcases HPC with e | e | e | e
      · rw [e] at hcp; simp at hcp; omega
      · rw [e] at hcp; simp at hcp; omega
      · rw [e] at hcp; simp at hcp; omega
      · rw [e]; simp
    obtain ⟨h0, h1⟩ := hp _ hm
    exact ⟨n.c.toNat, by omega, by omega, hr n.c.toNat (by omega)⟩
  clear hc3 hcp HPC hr hp
  generalize mv P n = u at HV ⊢
  generalize P n.a.toNat = xa at HV HA
  generalize P n.b.toNat = xb at HV HB
  generalize P n.c.toNat = xc at HV HD
  obtain ⟨op, m, k, a, b, c⟩ := n
  dsimp only at *
  rcases HC.out with hc | hc | hc | hc
  · have HK : Hid (cnt op = _) := hc
    clear HA HB HD
    go_enter Tryz.func42, Tryz.ntmps42
    go_wp2_with (go_at_call 68; refine (iCount _ _).mono ?_; rintro e w' ⟨rfl, rfl⟩; rw [hc])
    refine bodyPost_ret (v := .agg #[.int .i64 u.op, .int .i64 u.w, .int .i64 u.k, .int .i64 u.a, .int .i64 u.b, .int .i64 u.c]) ?_ rfl ⟨rfl, ?_⟩
    · have h9 := HV.out
      rw [HK.out] at h9
      simp at h9
      subst h9
      simp [results, Tryz.results42, go_sem]
    · exact ((Below.refl _ _).alloc (Nat.le_refl _) _).alloc (by simp) _
  · have HK : Hid (cnt op = _) := hc
    obtain ⟨ja, rfl, hja, pa⟩ := HA.out (by omega)
    have hz1 : (ja : Int) < (len : Int) := by omega
    have hn0 : gp < w.heap.size := lt_of_cell (p := ⟨gp, go + ja, none⟩) pa
    have hn1 : gp < w.heap.size + 1 := by omega
    clear HA HB HD
    go_enter Tryz.func42, Tryz.ntmps42
    go_wp2_with (go_at_call 68; refine (iCount _ _).mono ?_; rintro e w' ⟨rfl, rfl⟩; rw [hc])
    refine bodyPost_ret (v := .agg #[.int .i64 u.op, .int .i64 u.w, .int .i64 u.k, .int .i64 u.a, .int .i64 u.b, .int .i64 u.c]) ?_ rfl ⟨rfl, ?_⟩
    · have h9 := HV.out
      rw [HK.out] at h9
      simp at h9
      subst h9
      simp [results, Tryz.results42, go_sem]
    · exact ((Below.refl _ _).alloc (Nat.le_refl _) _).alloc (by simp) _
  · have HK : Hid (cnt op = _) := hc
    obtain ⟨ja, rfl, hja, pa⟩ := HA.out (by omega)
    obtain ⟨jb, rfl, hjb, pb⟩ := HB.out (by omega)
    have hz1 : (ja : Int) < (len : Int) := by omega
    have hz2 : (jb : Int) < (len : Int) := by omega
    have hn0 : gp < w.heap.size := lt_of_cell (p := ⟨gp, go + ja, none⟩) pa
    have hn1 : gp < w.heap.size + 1 := by omega
    clear HA HB HD
    go_enter Tryz.func42, Tryz.ntmps42
    go_wp2_with (go_at_call 68; refine (iCount _ _).mono ?_; rintro e w' ⟨rfl, rfl⟩; rw [hc])
    refine bodyPost_ret (v := .agg #[.int .i64 u.op, .int .i64 u.w, .int .i64 u.k, .int .i64 u.a, .int .i64 u.b, .int .i64 u.c]) ?_ rfl ⟨rfl, ?_⟩
    · have h9 := HV.out
      rw [HK.out] at h9
      simp at h9
      subst h9
      simp [results, Tryz.results42, go_sem]
    · exact ((Below.refl _ _).alloc (Nat.le_refl _) _).alloc (by simp) _
  · have HK : Hid (cnt op = _) := hc
    obtain ⟨ja, rfl, hja, pa⟩ := HA.out (by omega)
    obtain ⟨jb, rfl, hjb, pb⟩ := HB.out (by omega)
    obtain ⟨jc, rfl, hjc, pc⟩ := HD.out (by omega)
    have hz1 : (ja : Int) < (len : Int) := by omega
    have hz2 : (jb : Int) < (len : Int) := by omega
    have hz3 : (jc : Int) < (len : Int) := by omega
    have hn0 : gp < w.heap.size := lt_of_cell (p := ⟨gp, go + ja, none⟩) pa
    have hn1 : gp < w.heap.size + 1 := by omega
    clear HA HB HD
    go_enter Tryz.func42, Tryz.ntmps42
    go_wp2_with (go_at_call 68; refine (iCount _ _).mono ?_; rintro e w' ⟨rfl, rfl⟩; rw [hc])
    refine bodyPost_ret (v := .agg #[.int .i64 u.op, .int .i64 u.w, .int .i64 u.k, .int .i64 u.a, .int .i64 u.b, .int .i64 u.c]) ?_ rfl ⟨rfl, ?_⟩
    · have h9 := HV.out
      rw [HK.out] at h9
      simp at h9
      subst h9
      simp [results, Tryz.results42, go_sem]
    · exact ((Below.refl _ _).alloc (Nat.le_refl _) _).alloc (by simp) _


set_option maxRecDepth 100000 in
theorem res_moved {w : World} {g : Nat} {n : Nd} {tmps : Array Value} (hp : tmps.getD 7 undef = .pointer (some ⟨g, 0, none⟩)) (h : NodeAt w g 0 n) :
    (results Tryz.f41 tmps).run Tryz.prog w = .ok (nv n) w := by
  have hr : w.rangeAt g 0 [.int .i64 n.op, .int .i64 n.w, .int .i64 n.k, .int .i64 n.a, .int .i64 n.b, .int .i64 n.c] := fun j v hv => by
    rw [Nat.zero_add]
    have hj : j < 6 := by
      have := (List.getElem?_eq_some_iff.1 hv).1
      simpa using this
    rcases (show j = 0 ∨ j = 1 ∨ j = 2 ∨ j = 3 ∨ j = 4 ∨ j = 5 by omega) with h' | h' | h' | h' | h' | h' <;> subst h'
    · rw [← hv]; exact h.c0
    · rw [← hv]; exact h.c1
    · rw [← hv]; exact h.c2
    · rw [← hv]; exact h.c3
    · rw [← hv]; exact h.c4
    · rw [← hv]; exact h.c5
  have hl := run_loadVar_mid (P := Tryz.prog) w g 0 35 _ _ hr Tryz.underlying35 rfl rfl
  have hp' : tmps[7]?.getD undef = .pointer (some ⟨g, 0, none⟩) := by simpa using hp
  simp [results, hp', asAddr, hl]
def mvF (P : Nat → Int) (_ : Nat) (n : Nd) (_ : List Nd) : Nd := mv P n
theorem tellM (px : Nat) (gp go cp : Nat) (P : Nat → Int) (l : List Nd) (w0 : World) (hD : Down l) (hl : l.length ≤ 80) (hc : w0.cell? ⟨px, 0, none⟩ = some (.slice (some ⟨gp, go, none⟩) l.length cp)) (hr : ∀ i, i < l.length → w0.cell? ⟨gp, go + i, none⟩ = some (.int .i64 (P i))) :
    TellN w0 41 #[.pointer (some ⟨px, 0, none⟩)] l (mvF P) := by
  intro W i a c hi hB _
  have h1 : W.cell? ⟨px, 0, none⟩ = some (.slice (some ⟨gp, go, none⟩) l.length cp) := (hB.cell (lt_of_cell hc)).trans hc
  have hr1 : ∀ i, i < l.length → W.cell? ⟨gp, go + i, none⟩ = some (.int .i64 (P i)) := fun i hi => (hB.cell (lt_of_cell (hr i hi))).trans (hr i hi)
  have hpd : ∀ p ∈ parts (nth l i), 0 ≤ p ∧ p < (l.length : Int) := fun p hp => by have := hD i hi p hp; omega
  have hs : (said Nd.zero (mvF P) l i).length ≤ 1048577 := by
    rw [said_len]
    exact Nat.le_trans (parts_le _) (by omega)
  show Calls _ _ _ _ fun e w' => e = .returned (nv (mv P (nth l i))) ∧ _
  generalize nth l i = n at hpd hs
  have hI : (i : Int) ≤ 1048576 := by omega
  obtain ⟨W1, hW1⟩ : ∃ W1 : World, W1 = (W.alloc (.cells #[.int .i64 n.op, .int .i64 n.w, .int .i64 n.k, .int .i64 n.a, .int .i64 n.b, .int .i64 n.c] 35)).alloc (.cells #[.int .i64 0, .int .i64 0, .int .i64 0, .int .i64 0, .int .i64 0, .int .i64 0] 35) := ⟨_, rfl⟩
  have hs0 : (W.alloc (.cells #[.int .i64 n.op, .int .i64 n.w, .int .i64 n.k, .int .i64 n.a, .int .i64 n.b, .int .i64 n.c] 35)).heap.size = W.heap.size + 1 := by simp
  have hb0 : Below W.heap.size W (W.alloc (.cells #[.int .i64 n.op, .int .i64 n.w, .int .i64 n.k, .int .i64 n.a, .int .i64 n.b, .int .i64 n.c] 35)) := (Below.refl _ _).alloc (Nat.le_refl _) _
  have HB : Hid (Below W.heap.size W W1) := by rw [hW1]; exact hb0.alloc (by simp) _
  have hn1 : NodeAt W1 W.heap.size 0 n := by
    have h : NodeAt (W.alloc (.cells #[.int .i64 n.op, .int .i64 n.w, .int .i64 n.k, .int .i64 n.a, .int .i64 n.b, .int .i64 n.c] 35)) W.heap.size 0 n := ⟨by simp, by simp, by simp, by simp, by simp, by simp⟩
    rw [hW1]
    exact h.below ((Below.refl _ _).alloc (Nat.le_refl _) _) h.lt
  have HZ : Hid (NodeAt W1 (W.heap.size + 1) 0 Nd.zero ∧ ∀ j, W1.frozen? ⟨W.heap.size + 1, j, none⟩ = false) := by
    rw [hW1, ← hs0]
    exact ⟨⟨by simp [Nd.zero], by simp [Nd.zero], by simp [Nd.zero], by simp [Nd.zero], by simp [Nd.zero], by simp [Nd.zero]⟩, fun j => by simp⟩
  have hc1 : W1.cell? ⟨px, 0, none⟩ = some (.slice (some ⟨gp, go, none⟩) l.length cp) := (HB.out.cell (lt_of_cell h1)).trans h1
  have HR1 : Hid (∀ i, i < l.length → W1.cell? ⟨gp, go + i, none⟩ = some (.int .i64 (P i))) := fun i hi => (HB.out.cell (lt_of_cell (hr1 i hi))).trans (hr1 i hi)
  obtain ⟨b0, b1, b2, b3, b4, b5⟩ := hn1
  simp only [Nat.zero_add] at b1 b2 b3 b4 b5
  have HPD : Hid (∀ p ∈ parts n, 0 ≤ p ∧ p < (l.length : Int)) := hpd
  clear hB hc hr h1 hr1 hpd hs0 hb0
  go_enter Tryz.func41, Tryz.ntmps41
  go_upto_region 1 with fail
  rw [← hW1]
  clear hW1
  go_wp2_with fail
  refine (iMovedAt n W1 gp go l.length cp P HR1.out HPD.out hl).mono ?_
  rintro e w2 ⟨rfl, hb2⟩
  have HB2 : Hid (Below W.heap.size W w2) := HB.out.trans (hb2.mono HB.out.size)
  have hz2 : NodeAt w2 (W.heap.size + 1) 0 Nd.zero := HZ.out.1.below hb2 HZ.out.1.lt
  have hf2 : ∀ j, w2.frozen? ⟨W.heap.size + 1, j, none⟩ = false := fun j => (hb2.frozen (p := ⟨W.heap.size + 1, j, none⟩) HZ.out.1.lt).trans (HZ.out.2 j)
  have HZ2 : Hid (NodeAt w2 (W.heap.size + 1) 0 Nd.zero) := hz2
  obtain ⟨r0, r1, r2, r3, r4, r5⟩ := hz2
  simp only [Nat.zero_add] at r1 r2 r3 r4 r5
  have f0 := hf2 0
  have f1 := hf2 1
  have f2 := hf2 2
  have f3 := hf2 3
  have f4 := hf2 4
  have f5 := hf2 5
  have HE : Hid (Below W.heap.size W (setNode w2 (W.heap.size + 1) 0 (mv P n)) ∧ NodeAt (setNode w2 (W.heap.size + 1) 0 (mv P n)) (W.heap.size + 1) 0 (mv P n)) := by
    have k := setNode_keptS (S := fun b => b = W.heap.size + 1) (b := W.heap.size + 1) (p := 0) (n := mv P n) rfl (Kept.refl (fun b => b = W.heap.size + 1) w2)
    exact ⟨HB2.out.trans (k.below (fun b (hb : b = _) => by omega) HB2.out.size), setNode_same HZ2.out⟩
  generalize hy : mv P n = y at HE ⊢
  have HY : Hid (mv P n = y) := hy
  clear hy
  clear hb2 hf2 HB2 HZ2 HZ HR1 b0 b1 b2 b3 b4 b5 hc1 HB HPD
  go_wp2_with fail
  refine bodyPost_ret (v := nv y) (res_moved (g := W.heap.size + 1) (n := y) rfl HE.out.2) rfl ?_
  exact ⟨by rw [HY.out], HE.out.1⟩

end Go.Proofs.YtnbenffechplgaaGreat.Pb10
