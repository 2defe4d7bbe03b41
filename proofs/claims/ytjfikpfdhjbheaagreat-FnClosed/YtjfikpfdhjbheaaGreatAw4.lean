/- The program's walk over a term, for arrays of eight numbers. Written by tools/mkar.py. -/
import Derived.Test.YtjfikpfdhjbheaaGreatPkCL29
import Derived.Test.YtjfikpfdhjbheaaGreatPkCL17
namespace Go.Proofs.YtjfikpfdhjbheaaGreat.Aw4
open Go.RowKit
open Nd0 Nd3 Pl1 Tm0 Tm1 Tm8 Pg1 Pg2 Aq0
open Ar0
open Aw1 (nv)
set_option linter.unusedVariables false

def TellA (w0 : World) (k : Nat) (cap : Array Value) (l : List Nd) (F : Nat → Nd → List Ar → Ar) : Prop :=
  ∀ (W : World) (i : Nat) (a : Option Addr) (c : Nat), i < l.length → Below w0.heap.size w0 W → Ars W a (said Ar.nil F l i) →
    Calls Tryz.prog k (#[.int .i64 (i : Int), nv (nth l i), .slice a (said Ar.nil F l i).length c] ++ cap) W fun e w' => e = .returned (av (F i (nth l i) (said Ar.nil F l i))) ∧ Below W.heap.size W w'

set_option maxRecDepth 100000 in
set_option maxHeartbeats 4000000 in
theorem wArr (k : Nat) (cap : Array Value) (F : Nat → Nd → List Ar → Ar) (w : World) (a : Option Addr) (l : List Nd) (c : Nat) (hN : Nodes w a l) (hD : Down l) (hl : l.length ≤ 1048576)
    (hk : ∀ args w, (callFunc k args).run Tryz.prog w = .ok (.enter k args) w) (hT : TellA w k cap l F) :
    Calls Tryz.prog 48 #[.slice a l.length c, .func (.func k) #[] cap] w fun e w' => (∃ a', e = .returned (.slice a' l.length l.length) ∧ WArs w' w.heap.size a' (wk Ar.nil F l l.length)) ∧ Below w.heap.size w w' := by
  have HN : Hid (Nodes w a l) := hN
  have HD : Hid (Down l) := hD
  have HT : Hid (TellA w k cap l F) := hT
  clear hN hD hT
  have hmk := makeAs l.length hl w
  obtain ⟨g, hg⟩ : ∃ g : Nat, g = w.heap.size := ⟨_, rfl⟩
  have HG : Hid (g = w.heap.size) := hg
  have HR0 : Hid (RowA (w.alloc (.cells (zerosA l.length) 43)) g l.length (fun i => (wk Ar.nil F l 0).getD i Ar.nil)) := by
    rw [hg]
    exact RowA.new _ _ _
  have HB0 : Hid (Below w.heap.size w (w.alloc (.cells (zerosA l.length) 43))) := (Below.refl _ _).alloc (Nat.le_refl _) _
  go_enter Tryz.func48, Tryz.ntmps48
  go_wp2_with fail
  clear hmk
  rw [← hg]
  clear hg
  generalize w.alloc (.cells (zerosA l.length) 43) = wa at HR0 HB0 ⊢
  go_loopw [16] (fun q wr => ∃ j : Nat, j ≤ l.length ∧ q = .int .i64 j ∧ RowA wr g l.length (fun i => (wk Ar.nil F l j).getD i Ar.nil) ∧ Below w.heap.size w wr) (fun q _ => l.length - (intOf q).toNat)
  case atStart => exact ⟨0, Nat.zero_le _, rfl, HR0.out, HB0.out⟩
  case round =>
    clear HR0 HB0
    obtain ⟨j, hj, rfl, hr, hb⟩ := hrel
    obtain ⟨wb, rfl⟩ : ∃ wb : World, wb = wr := ⟨_, rfl⟩
    have HR : Hid (RowA wb g l.length (fun i => (wk Ar.nil F l j).getD i Ar.nil)) := hr
    have HB : Hid (Below w.heap.size w wb) := hb
    have hBs : w.heap.size ≤ wb.heap.size := hb.size
    clear hr hb
    by_cases hlt : j < l.length
    · have hlz : (j : Int) < (l.length : Int) := by omega
      rcases (HN.out.below HB.out).2 with h0 | ⟨xb, xo, rfl, hc⟩
      · omega
      obtain ⟨p0, p1, p2, p3, p4, p5⟩ := hc j hlt
      rw [nth_get hlt] at p0 p1 p2 p3 p4 p5
      clear hc
      have HDJ : Hid (∀ p ∈ parts (nth l j), 0 ≤ p ∧ p < (j : Int)) := HD.out j hlt
      have HSA : Hid (said Ar.nil F l j = (parts (nth l j)).map fun p => (wk Ar.nil F l j).getD p.toNat Ar.nil) := rfl
      have HTJ : Hid (∀ (W : World) (a : Option Addr) (c : Nat), Below w.heap.size w W → Ars W a (said Ar.nil F l j) →
        Calls Tryz.prog k (#[.int .i64 (j : Int), nv (nth l j), .slice a (said Ar.nil F l j).length c] ++ cap) W fun e w' => e = .returned (av (F j (nth l j) (said Ar.nil F l j))) ∧ Below W.heap.size W w') := fun W a c h1 h2 => HT.out W j a c hlt h1 h2
      have HWK : Hid (∀ i, (wk Ar.nil F l (j + 1)).getD i Ar.nil = if i = j then F j (nth l j) (said Ar.nil F l j) else (wk Ar.nil F l j).getD i Ar.nil) := fun i => wk_set Ar.nil F l j i
      generalize hn : nth l j = n at p0 p1 p2 p3 p4 p5 HDJ HSA HTJ HWK
      clear hn
      generalize F j n (said Ar.nil F l j) = y at HTJ HWK
      generalize said Ar.nil F l j = sd at HSA HTJ
      have hX : ∃ X : Nat → Ar, X = fun i => (wk Ar.nil F l j).getD i Ar.nil := ⟨_, rfl⟩
      obtain ⟨X, hX⟩ := hX
      have HRX : Hid (RowA wb g l.length X) := by rw [hX]; exact HR.out
      have HSX : Hid (sd = (parts n).map fun p => X p.toNat) := by show _ = _; rw [hX]; exact HSA.out
      have HWX : Hid (∀ i, (wk Ar.nil F l (j + 1)).getD i Ar.nil = if i = j then y else X i) := by rw [hX]; exact HWK.out
      clear hX HSA HWK HR
      have hgl : g < wb.heap.size := HRX.out.lt (by omega)
      obtain ⟨W1, hW1⟩ : ∃ W1 : World, W1 = wb.alloc (.cells #[.int .i64 n.op, .int .i64 n.w, .int .i64 n.k, .int .i64 n.a, .int .i64 n.b, .int .i64 n.c] 42) := ⟨_, rfl⟩
      have hs1 : W1.heap.size = wb.heap.size + 1 := by rw [hW1]; simp
      have HB1 : Hid (Below wb.heap.size wb W1) := by rw [hW1]; exact (Below.refl _ _).alloc (Nat.le_refl _) _
      have HNB : Hid (NodeAt W1 wb.heap.size 0 n) := by rw [hW1]; exact ⟨by simp, by simp, by simp, by simp, by simp, by simp⟩
      obtain ⟨W2, hW2⟩ : ∃ W2 : World, W2 = W1.alloc (.cells #[] 43) := ⟨_, rfl⟩
      have hs2 : W2.heap.size = wb.heap.size + 2 := by rw [hW2]; simp [hs1]
      have HB2 : Hid (Below W1.heap.size W1 W2) := by rw [hW2]; exact (Below.refl _ _).alloc (Nat.le_refl _) _
      have HO2 : Hid (OwA W2 W1.heap.size (.slice (some ⟨wb.heap.size + 1, 0, none⟩) 0 0) []) := by rw [← hs1, hW2]; exact OwA.lit W1 _ (Nat.le_refl _)
      go_wp2_with fail
      rw [← hW1, ← hW2]
      refine (iParts n W2).mono ?_
      rintro e W3 ⟨⟨pa, pc, rfl, hpi⟩, hb3⟩
      have hs3 := hb3.size
      have HP3 : Hid (IntsIn W3 W2.heap.size W3.heap.size pa (parts n)) := hpi.within
      have HO3 : Hid (OwA W3 W1.heap.size (.slice (some ⟨wb.heap.size + 1, 0, none⟩) 0 0) []) := HO2.out.kept (S := fun _ => False) (Kept.ofBelow hb3) (fun _ _ h => h)
      have HB3 : Hid (Below W1.heap.size W1 W3) := HB2.out.trans (hb3.mono (by omega))
      have hpl := parts_le n
      clear hpi hb3 HB2 HO2 hW1 hW2 p0 p1 p2 p3 p4 p5
      go_wp2_with fail
      go_loopw [8, 25] (fun v q wq => ∃ m : Nat, m ≤ (parts n).length ∧ q = .int .i64 m ∧ OwA wq W1.heap.size v (((parts n).take m).map fun p => X p.toNat) ∧ Below W1.heap.size W1 wq ∧ IntsIn wq W2.heap.size W3.heap.size pa (parts n) ∧ W3.heap.size ≤ wq.heap.size ∧ ∀ x, v.ownBlock = some x → x < W2.heap.size ∨ W3.heap.size ≤ x) (fun _ q _ => (parts n).length - (intOf q).toNat)
      case atStart => exact ⟨0, Nat.zero_le _, rfl, HO3.out, HB3.out, HP3.out, Nat.le_refl _, fun x hx => by cases hx; exact .inl (by simp; omega)⟩
      case round =>
        clear HO3 HB3 HP3
        obtain ⟨m, hm, rfl, ho, hb, hi, hsz, hne⟩ := hrel
        have HBQ : Hid (Below W1.heap.size W1 wr) := hb
        have HIQ : Hid (IntsIn wr W2.heap.size W3.heap.size pa (parts n)) := hi
        have HRQ : Hid (RowA wr g l.length X) := (HRX.out.below HB1.out).below hb
        have HBW : Hid (Below w.heap.size w wr) := (HB.out.trans (HB1.out.mono hBs)).trans (hb.mono (by omega))
        have hB1 : W1.heap.size ≤ wr.heap.size := hb.size
        clear hb hi
        obtain ⟨ao, co, rfl, hwn, -⟩ := ho.form
        have HO : Hid (OwA wr W1.heap.size (.slice ao (((parts n).take m).map fun p => X p.toNat).length co) (((parts n).take m).map fun p => X p.toNat)) := ho
        have HNE : Hid (∀ x, (Value.slice ao (((parts n).take m).map fun p => X p.toNat).length co).ownBlock = some x → x < W2.heap.size ∨ W3.heap.size ≤ x) := hne
        have HLJ : Hid ((((parts n).take m).map fun p => X p.toNat).length = m) := by
          show _ = _
          rw [List.length_map, List.length_take]; omega
        clear ho hne
        by_cases hlt2 : m < (parts n).length
        · have hmz : (m : Int) < ((parts n).length : Int) := by omega
          clear hwn
          rcases HIQ.out.2 with h0 | ⟨pb, po, rfl, hpB, hpU, hpc⟩
          · omega
          have q0 := (hpc m hlt2).1
          have HPM := HDJ.out _ (List.getElem_mem hlt2)
          have HTK : Hid (((parts n).take (m + 1)).map (fun p => X p.toNat) = (((parts n).take m).map fun p => X p.toNat) ++ [X (parts n)[m].toNat]) := by
            show _ = _
            rw [List.take_succ_eq_append_getElem hlt2, List.map_append]; rfl
          obtain ⟨hy0, hy1⟩ := HPM
          generalize (parts n)[m] = yp at q0 hy0 hy1 HTK
          generalize (((parts n).take m).map fun p => X p.toNat) = L at HO HNE HLJ HTK ⊢
          clear hpc
          obtain ⟨jy, rfl⟩ := Int.eq_ofNat_of_zero_le hy0
          rw [Int.toNat_natCast] at HTK
          have c9 : ArAt wr g (jy * 8) (X jy) := (HRQ.out jy (by omega)).1
          have hyl : (jy : Int) < (l.length : Int) := by omega
          have hLl : L.length ≤ 1048576 := by have := HLJ.out; omega
          generalize X jy = z at c9 HTK
          obtain ⟨c0, c1, c2, c3, c4, c5, c6, c7⟩ := c9
          go_wp2_with (at_builtin; go_must (refine app_a _ rfl _ _ rfl W1.heap.size (.slice ao L.length co) L z rfl _ rfl rfl HO.out hB1 hLl ?_; intro g5 cp5 w5 ho5 hk5 hg5))
          have HO5 : Hid (OwA w5 W1.heap.size (.slice (some ⟨g5, 0, none⟩) (L.length + 1) cp5) (L ++ [z])) := ho5
          have HK5 : Hid (Kept (fun k => (Value.slice ao L.length co).ownBlock = some k) wr w5) := hk5
          have HG5 : Hid ((Value.slice ao L.length co).ownBlock = some g5 ∨ wr.heap.size ≤ g5) := hg5
          clear ho5 hk5 hg5
          go_wp2
          go_roundw
          case rel =>
            refine ⟨m + 1, by omega, by go_num, by rw [HTK.out]; exact HO5.out, HBQ.out.trans (HK5.out.below (fun b hb => (HO.out.lt b hb).1) hB1), HIQ.out.kept HK5.out (fun b h1 h2 e => by have := HNE.out b e; omega), by have := HK5.out.size; omega, fun b hb => ?_⟩
            cases hb
            rcases HG5.out with e | e
            · exact HNE.out _ e
            · exact .inr (by show _ ≤ g5; omega)
          case measure => simp [intOf]; omega
        · have hmz : ¬ (m : Int) < ((parts n).length : Int) := by omega
          have hme : m = (parts n).length := by omega
          have HLS : Hid ((((parts n).take m).map fun p => X p.toNat) = sd) := by show _ = _; rw [HSX.out, List.take_of_length_le (by omega)]
          clear HO HNE HLJ hme
          rw [HLS.out] at hwn ⊢
          have HWN : Hid (WArs wr W1.heap.size ao sd) := hwn
          obtain ⟨b0, b1, b2, b3, b4, b5⟩ := HNB.out.below HBQ.out (by omega)
          clear hwn
          go_wp2_with fail
          refine (HTJ.out wr ao co HBW.out HWN.out.plain).mono ?_
          rintro e w6 ⟨rfl, hb6⟩
          have HB6 : Hid (Below w.heap.size w w6) := HBW.out.trans (hb6.mono (by omega))
          have HR6 : Hid (RowA w6 g l.length X) := HRQ.out.below hb6
          obtain ⟨⟨c0, c1, c2, c3, c4, c5, c6, c7⟩, hfz⟩ := HR6.out j hlt
          have f0 := hfz 0 (by omega)
          have f1 := hfz 1 (by omega)
          have f2 := hfz 2 (by omega)
          have f3 := hfz 3 (by omega)
          have f4 := hfz 4 (by omega)
          have f5 := hfz 5 (by omega)
          have f6 := hfz 6 (by omega)
          have f7 := hfz 7 (by omega)
          rw [Nat.add_zero] at f0
          clear hfz
          clear hb6 b0 b1 b2 b3 b4 b5
          go_wp2_with fail
          go_roundw
          case rel =>
            refine ⟨j + 1, by omega, by go_num, ?_, HB6.out.trans ((setAr_keptS (S := fun b => b = g) (b := g) (p := j * 8) (n := y) rfl (Kept.refl _ w6)).below (fun b (hb : b = g) => by have := HG.out; omega) HB6.out.size)⟩
            refine (HR6.out.set hlt _).congr (fun i hi => ?_)
            rw [HWX.out]
          case measure => simp [intOf]; omega
    · have e2 : j = l.length := by omega
      subst e2
      go_wp2
      go_ret
      refine ⟨⟨_, rfl, ⟨by rw [wk_length]; unfold maxLen; omega, .inr ⟨g, 0, rfl, by have := HG.out; omega, fun i hi => ?_, fun j hj => ?_⟩⟩⟩, HB.out⟩
      · have h9 := HR.out i (by rw [wk_length] at hi; exact hi)
        dsimp only at h9
        rw [List.getD_eq_getElem?_getD, List.getElem?_eq_getElem hi] at h9
        rw [Nat.zero_add]
        exact h9.1
      · rw [wk_length] at hj
        have h9 := (HR.out (j / 8) (by omega)).2 (j % 8) (Nat.mod_lt _ (by omega))
        rw [Nat.zero_add]
        have e : j / 8 * 8 + j % 8 = j := by omega
        rw [e] at h9
        exact h9

end Go.Proofs.YtjfikpfdhjbheaaGreat.Aw4
