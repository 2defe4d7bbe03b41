/- Small texts of mine, one behind the other. -/
import Derived.Test.YtlpbfbghgacjiaaRows
import Derived.Deep.AppendLies
import Derived.OwnWalk
import Derived.Test.YtlpbfbghgacjiaaPkR15
import Derived.Test.YtlpbfbghgacjiaaPkR0
import Derived.Test.YtlpbfbghgacjiaaTd4
import Derived.Test.YtlpbfbghgacjiaaPkR11
/- The program's verdict. -/
namespace Go.Proofs.Ytlpbfbghgacjiaa.Dp3
open Go.RowKit
open Ta1 Tc4 Tc5 Dv0 Dp1
open Nd0 (Kept set_other set_same lt_of_cell)
open Nd6 (Bools)
open Tc2 (ret_int)
set_option linter.unusedVariables false

/-- What the verdict is to do from k bits on. -/
def VC (row : List Bool) (G : Nat → Bool) (ra : Option Addr) (c n g k : Nat) : Prop := ∀ (W : World) (p : Nat), p < 2 ^ k → Bools W ra row → Wds W g (nw n) G → Calls Try.prog 79 #[rv ra c n (nw n) g, .int .i64 (k : Int), .int .i64 (p : Int)] W fun e w' => e = .returned (.int .i64 ((dcAt row G k p).toNat : Int)) ∧ Below W.heap.size W w'

set_option maxRecDepth 100000 in
set_option maxHeartbeats 2000000 in
theorem halfF {row : List Bool} {G : Nat → Bool} {ra : Option Addr} {c n g k p b0 b1 b2 : Nat} (hV : VC row G ra c n g (k + 1)) (hn : n ≤ 12) (hk : k < n) (hp : p < 2 ^ k) (w : World) (hR : Rb w b0 ra c n (nw n) g) (hK : Nb w b1 (k : Int)) (hP : Nb w b2 (p : Int)) (hB : Bools w ra row) (hW : Wds w g (nw n) G) :
    TellsF w b0 b1 b2 (fun b => dcAt row G (k + 1) (2 * p + b)) := by
  intro W b hb hbe
  obtain ⟨x0, x1, x2⟩ : Rb W b0 ra c n (nw n) g := by
    have h1 := hR.lt
    exact ⟨by rw [hbe.cell (p := ⟨b0, 0, none⟩) h1]; exact hR.c0, by rw [hbe.cell (p := ⟨b0, 1, none⟩) h1]; exact hR.c1, by rw [hbe.cell (p := ⟨b0, 2, none⟩) h1]; exact hR.c2⟩
  have y0 : W.cell? ⟨b1, 0, none⟩ = some (.int .i64 (k : Int)) := hK.below hbe
  have z0 : W.cell? ⟨b2, 0, none⟩ = some (.int .i64 (p : Int)) := hP.below hbe
  have h12 := p12 (n := k) (by omega)
  have hp2 : p < 4096 := by omega
  have HC : Hid (Calls Try.prog 79 #[rv ra c n (nw n) g, .int .i64 ((k : Int) + 1), .int .i64 ((2 * p + b : Nat) : Int)] W fun e w' => e = .returned (.int .i64 ((dcAt row G (k + 1) (2 * p + b)).toNat : Int)) ∧ Below W.heap.size W w') := by
    have := hV W (2 * p + b) (by rw [Nat.pow_succ]; omega) (hB.below hbe) (hW.below hbe)
    have e : ((k + 1 : Nat) : Int) = (k : Int) + 1 := by omega
    rwa [e] at this
  have hor : bits .or .i64 ((p : Int) * 2) (b : Int) = ((2 * p + b : Nat) : Int) := by
    rw [show (p : Int) * 2 = ((2 * p : Nat) : Int) by omega, bor62 (by omega) (by omega), or_bit p b hb]
  show Calls _ _ _ _ fun e w' => e = .returned (.int .i64 ((dcAt row G (k + 1) (2 * p + b)).toNat : Int)) ∧ _
  generalize dcAt row G (k + 1) (2 * p + b) = r at *
  generalize 2 * p + b = s at *
  generalize nw n = m at *
  clear h12 hV hR hK hP hB hW hp
  go_enter Try.func106, Try.ntmps106
  go_wp2_with (go_at_call 79; refine HC.out.mono ?_; rintro e w1 ⟨rfl, hb1⟩; have HB1 : Hid (Below W.heap.size W w1) := hb1; clear hb1)
  go_ret
  exact ⟨rfl, HB1.out⟩

set_option maxRecDepth 100000 in
set_option maxHeartbeats 2000000 in
theorem vc_end {row : List Bool} {G : Nat → Bool} {ra : Option Addr} {c n g : Nat} (hn : n ≤ 12) (hrn : row.length = n) : VC row G ra c n g n := by
  intro w p hp hB hW
  have HD : Hid (dcAt row G n p = G p) := by
    show _ = _
    rw [← hrn]; exact dcAt_end row G p
  have HA : Hid (∀ W, Below w.heap.size w W → Calls Try.prog 94 #[pv n (nw n) g, .int .i64 (p : Int)] W fun e w' => e = .returned (.int .i64 ((G p).toNat : Int)) ∧ Below W.heap.size W w') := fun W h => at_ n g p G W hn hp (hW.below h)
  have HB0 : Hid (Below w.heap.size w (w.alloc (.cells #[.slice ra n c, .int .i64 (n : Int), .slice (some ⟨g, 0, none⟩) (nw n) (nw n)] 114))) := (Below.refl _ _).alloc (Nat.le_refl _) _
  rw [HD.out]
  clear hW hB hp hrn HD
  generalize G p = r at *
  generalize nw n = m at *
  go_enter Try.func79, Try.ntmps79
  go_wp2_with (go_at_call 94; refine (HA.out _ HB0.out).mono ?_; rintro e w1 ⟨rfl, hb1⟩; have HB1 : Hid (Below w.heap.size w w1) := HB0.out.trans (hb1.mono HB0.out.size); clear hb1)
  go_ret
  exact ⟨rfl, HB1.out⟩

set_option maxRecDepth 100000 in
set_option maxHeartbeats 4000000 in
theorem vc_step {row : List Bool} {G : Nat → Bool} {ra : Option Addr} {c n g k : Nat} (hV : VC row G ra c n g (k + 1)) (hn : n ≤ 12) (hrn : row.length = n) (hk : k < n) : VC row G ra c n g k := by
  intro w p hp hB hW
  have HH : Hid (∀ (W : World) (b0 b1 b2 : Nat), Rb W b0 ra c n (nw n) g → Nb W b1 (k : Int) → Nb W b2 (p : Int) → Below w.heap.size w W → TellsF W b0 b1 b2 (fun b => dcAt row G (k + 1) (2 * p + b))) := fun W b0 b1 b2 h1 h2 h3 h4 => halfF hV hn hk hp W h1 h2 h3 (hB.below h4) (hW.below h4)
  rcases hB.2 with h0 | ⟨xb, xo, rfl, hc⟩
  · omega
  have p0 := hc k (by omega)
  have hkz : (k : Int) < (n : Int) := by omega
  have hkn : ((k : Int) == (n : Int)) = false := beq_eq_false_iff_ne.2 (by omega)
  have hkl : k < row.length := by omega
  clear hc hB hW hV hp
  cases hq : row[k]
  · rw [hq] at p0
    have HD : Hid (dcAt row G k p = (dcAt row G (k + 1) (2 * p + 0) || dcAt row G (k + 1) (2 * p + 1))) := by
      show _ = _
      rw [dcAt_step (by omega) G p]
      simp [hq]
    have HFL : Hid (∀ (W : World) (b0 b1 b2 : Nat), Calls Try.prog 101 #[.agg #[fk 106 b0 b1 b2], .bool false] W fun e w' => e = .returned (.func (.func 111) #[.agg #[fk 106 b0 b1 b2]] #[]) ∧ Below W.heap.size W w') := fun W b0 b1 b2 => flagF b0 b1 b2 false W
    have HEV : Hid (∀ (W : World) (b0 b1 b2 : Nat), Rb W b0 (some ⟨xb, xo, none⟩) c n (nw n) g → Nb W b1 (k : Int) → Nb W b2 (p : Int) → Below w.heap.size w W → Calls Try.prog 111 #[.agg #[fk 106 b0 b1 b2]] W fun e w' => e = .returned (.int .i64 ((dcAt row G k p).toNat : Int)) ∧ Below W.heap.size W w') := fun W b0 b1 b2 h1 h2 h3 h4 => by
      have := someF b0 b1 b2 _ W (HH.out W b0 b1 b2 h1 h2 h3 h4)
      rw [HD.out]
      exact this
    clear hq HD HH
    generalize dcAt row G k p = r at *
    generalize nw n = m at *
    obtain ⟨W0, hW0⟩ : ∃ W0, W0 = w.alloc (.cells #[.slice (some ⟨xb, xo, none⟩) n c, .int .i64 (n : Int), .slice (some ⟨g, 0, none⟩) m m] 114) := ⟨_, rfl⟩
    have HX : Hid (Rb W0 w.heap.size (some ⟨xb, xo, none⟩) c n m g) := by rw [hW0]; exact Rb.made _ _ _ _ _ _ _
    have HB0 : Hid (Below w.heap.size w W0) := by rw [hW0]; exact (Below.refl _ _).alloc (Nat.le_refl _) _
    have p1 : W0.cell? ⟨xb, xo + k, none⟩ = some (.bool false) := by rw [HB0.out.cell (lt_of_cell p0)]; exact p0
    have HW : Hid (w.alloc (.cells #[.slice (some ⟨xb, xo, none⟩) n c, .int .i64 (n : Int), .slice (some ⟨g, 0, none⟩) m m] 114) = W0) := hW0.symm
    clear hW0 p0
    go_enter Try.func79, Try.ntmps79
    go_upto_region 1 with fail
    rw [HW.out]
    obtain ⟨x0, x1, x2⟩ := HX.out
    have hq := lt_of_cell x0
    have hxb := lt_of_cell p1
    go_wp2_with fail
    have DX : Rb W0.drew w.heap.size (some ⟨xb, xo, none⟩) c n m g := HX.out.kept (S := fun _ => False) (Kept.refl _ _).drew (fun h => h)
    have DP : W0.drew.cell? ⟨xb, xo + k, none⟩ = some (.bool false) := p1
    have HBD : Hid (Below w.heap.size w W0.drew) := HB0.out.drew
    clear HW HB0
    go_region_held3 (fun w' => w'.cell? ⟨w.heap.size, 0, none⟩ = some (.slice (some ⟨xb, xo, none⟩) n c) ∧ w'.cell? ⟨w.heap.size, 1, none⟩ = some (.int .i64 (n : Int)) ∧ w'.cell? ⟨w.heap.size, 2, none⟩ = some (.slice (some ⟨g, 0, none⟩) m m) ∧ w'.cell? ⟨xb, xo + k, none⟩ = some (.bool false)) ((first | exact ⟨DX.c0, DX.c1, DX.c2, DP⟩ | exact ⟨EX.c0, EX.c1, EX.c2, EP⟩ | exact ⟨FX.c0, FX.c1, FX.c2, FP⟩)) ((first | (go_at_call 85; refine (iFork _ c n m g (k : Int) (p : Int) _).mono ?_; rintro e w1 ⟨bb, rfl, hbb, hR1, hK1, hP1, hb1⟩; have EX := DX.below hb1; have EP : w1.cell? ⟨xb, xo + k, none⟩ = some (.bool false) := (by rw [hb1.cell (lt_of_cell DP)]; exact DP); have HR1 : Hid (Rb w1 bb (some ⟨xb, xo, none⟩) c n m g ∧ Nb w1 (bb + 1) (k : Int) ∧ Nb w1 (bb + 1 + 1) (p : Int)) := ⟨hR1, hK1, hP1⟩; have HB1 : Hid (Below w.heap.size w w1) := HBD.out.trans (hb1.mono HBD.out.size); clear hR1 hK1 hP1 hb1 hbb) | (go_at_call 101; refine (HFL.out _ _ _ _).mono ?_; rintro e w2 ⟨rfl, hb2⟩; have FX := EX.below hb2; have FP : w2.cell? ⟨xb, xo + k, none⟩ = some (.bool false) := (by rw [hb2.cell (lt_of_cell EP)]; exact EP); have HR2 : Hid (Rb w2 bb (some ⟨xb, xo, none⟩) c n m g ∧ Nb w2 (bb + 1) (k : Int) ∧ Nb w2 (bb + 1 + 1) (p : Int)) := ⟨HR1.out.1.below hb2, HR1.out.2.1.below hb2, HR1.out.2.2.below hb2⟩; have HB2 : Hid (Below w.heap.size w w2) := HB1.out.trans (hb2.mono HB1.out.size); clear hb2)))
    all_goals
      go_wp2_with fail
      refine (HEV.out _ bb (bb + 1) (bb + 1 + 1) HR2.out.1 HR2.out.2.1 HR2.out.2.2 HB2.out).mono ?_
      rintro e w3 ⟨rfl, hb3⟩
      have HB3 : Hid (Below w.heap.size w w3) := HB2.out.trans (hb3.mono HB2.out.size)
      clear hb3 FX FP EX EP DX DP x0 x1 x2 p1
      go_wp2
      go_ret
      exact ⟨rfl, HB3.out⟩
  · rw [hq] at p0
    have HD : Hid (dcAt row G k p = (dcAt row G (k + 1) (2 * p + 0) && dcAt row G (k + 1) (2 * p + 1))) := by
      show _ = _
      rw [dcAt_step (by omega) G p]
      simp [hq]
    have HFL : Hid (∀ (W : World) (b0 b1 b2 : Nat), Calls Try.prog 101 #[.agg #[fk 106 b0 b1 b2], .bool true] W fun e w' => e = .returned (.func (.func 110) #[.agg #[fk 106 b0 b1 b2]] #[]) ∧ Below W.heap.size W w') := fun W b0 b1 b2 => flagF b0 b1 b2 true W
    have HEV : Hid (∀ (W : World) (b0 b1 b2 : Nat), Rb W b0 (some ⟨xb, xo, none⟩) c n (nw n) g → Nb W b1 (k : Int) → Nb W b2 (p : Int) → Below w.heap.size w W → Calls Try.prog 110 #[.agg #[fk 106 b0 b1 b2]] W fun e w' => e = .returned (.int .i64 ((dcAt row G k p).toNat : Int)) ∧ Below W.heap.size W w') := fun W b0 b1 b2 h1 h2 h3 h4 => by
      have := everyF b0 b1 b2 _ W (HH.out W b0 b1 b2 h1 h2 h3 h4)
      rw [HD.out]
      exact this
    clear hq HD HH
    generalize dcAt row G k p = r at *
    generalize nw n = m at *
    obtain ⟨W0, hW0⟩ : ∃ W0, W0 = w.alloc (.cells #[.slice (some ⟨xb, xo, none⟩) n c, .int .i64 (n : Int), .slice (some ⟨g, 0, none⟩) m m] 114) := ⟨_, rfl⟩
    have HX : Hid (Rb W0 w.heap.size (some ⟨xb, xo, none⟩) c n m g) := by rw [hW0]; exact Rb.made _ _ _ _ _ _ _
    have HB0 : Hid (Below w.heap.size w W0) := by rw [hW0]; exact (Below.refl _ _).alloc (Nat.le_refl _) _
    have p1 : W0.cell? ⟨xb, xo + k, none⟩ = some (.bool true) := by rw [HB0.out.cell (lt_of_cell p0)]; exact p0
    have HW : Hid (w.alloc (.cells #[.slice (some ⟨xb, xo, none⟩) n c, .int .i64 (n : Int), .slice (some ⟨g, 0, none⟩) m m] 114) = W0) := hW0.symm
    clear hW0 p0
    go_enter Try.func79, Try.ntmps79
    go_upto_region 1 with fail
    rw [HW.out]
    obtain ⟨x0, x1, x2⟩ := HX.out
    have hq := lt_of_cell x0
    have hxb := lt_of_cell p1
    go_wp2_with fail
    have DX : Rb W0.drew w.heap.size (some ⟨xb, xo, none⟩) c n m g := HX.out.kept (S := fun _ => False) (Kept.refl _ _).drew (fun h => h)
    have DP : W0.drew.cell? ⟨xb, xo + k, none⟩ = some (.bool true) := p1
    have HBD : Hid (Below w.heap.size w W0.drew) := HB0.out.drew
    clear HW HB0
    go_region_held3 (fun w' => w'.cell? ⟨w.heap.size, 0, none⟩ = some (.slice (some ⟨xb, xo, none⟩) n c) ∧ w'.cell? ⟨w.heap.size, 1, none⟩ = some (.int .i64 (n : Int)) ∧ w'.cell? ⟨w.heap.size, 2, none⟩ = some (.slice (some ⟨g, 0, none⟩) m m) ∧ w'.cell? ⟨xb, xo + k, none⟩ = some (.bool true)) ((first | exact ⟨DX.c0, DX.c1, DX.c2, DP⟩ | exact ⟨EX.c0, EX.c1, EX.c2, EP⟩ | exact ⟨FX.c0, FX.c1, FX.c2, FP⟩)) ((first | (go_at_call 85; refine (iFork _ c n m g (k : Int) (p : Int) _).mono ?_; rintro e w1 ⟨bb, rfl, hbb, hR1, hK1, hP1, hb1⟩; have EX := DX.below hb1; have EP : w1.cell? ⟨xb, xo + k, none⟩ = some (.bool true) := (by rw [hb1.cell (lt_of_cell DP)]; exact DP); have HR1 : Hid (Rb w1 bb (some ⟨xb, xo, none⟩) c n m g ∧ Nb w1 (bb + 1) (k : Int) ∧ Nb w1 (bb + 1 + 1) (p : Int)) := ⟨hR1, hK1, hP1⟩; have HB1 : Hid (Below w.heap.size w w1) := HBD.out.trans (hb1.mono HBD.out.size); clear hR1 hK1 hP1 hb1 hbb) | (go_at_call 101; refine (HFL.out _ _ _ _).mono ?_; rintro e w2 ⟨rfl, hb2⟩; have FX := EX.below hb2; have FP : w2.cell? ⟨xb, xo + k, none⟩ = some (.bool true) := (by rw [hb2.cell (lt_of_cell EP)]; exact EP); have HR2 : Hid (Rb w2 bb (some ⟨xb, xo, none⟩) c n m g ∧ Nb w2 (bb + 1) (k : Int) ∧ Nb w2 (bb + 1 + 1) (p : Int)) := ⟨HR1.out.1.below hb2, HR1.out.2.1.below hb2, HR1.out.2.2.below hb2⟩; have HB2 : Hid (Below w.heap.size w w2) := HB1.out.trans (hb2.mono HB1.out.size); clear hb2)))
    all_goals
      go_wp2_with fail
      refine (HEV.out _ bb (bb + 1) (bb + 1 + 1) HR2.out.1 HR2.out.2.1 HR2.out.2.2 HB2.out).mono ?_
      rintro e w3 ⟨rfl, hb3⟩
      have HB3 : Hid (Below w.heap.size w w3) := HB2.out.trans (hb3.mono HB2.out.size)
      clear hb3 FX FP EX EP DX DP x0 x1 x2 p1
      go_wp2
      go_ret
      exact ⟨rfl, HB3.out⟩

theorem verdict {row : List Bool} {G : Nat → Bool} {ra : Option Addr} {c n g : Nat} (hn : n ≤ 12) (hrn : row.length = n) (d : Nat) (hd : d ≤ n) : VC row G ra c n g (n - d) := by
  induction d with
  | zero => exact vc_end hn hrn
  | succ d ih =>
    have h := ih (by omega)
    rw [show n - d = (n - (d + 1)) + 1 by omega] at h
    exact vc_step h hn hrn (by omega)

end Go.Proofs.Ytlpbfbghgacjiaa.Dp3

/- Lists of whole numbers and of flags that are appended to: the law at the walk, and how they are read. -/
namespace Go.Proofs.Ytlpbfbghgacjiaa.Ap0
open Go.RowKit
open Nd0
set_option linter.unusedVariables false

theorem infoInt : (Try.prog.info? 3).map (fun i => (i.zero, i.size, i.bytes)) = some (some (.int .i64 0), 1, 8) := by kernel_rfl

/-- The slice v, in a block from B on, is the numbers l and may be appended to. -/
def Ows (w : World) (B : Nat) (v : Value) (l : List Int) : Prop := w.ownsRow B 3 1 v l.length (l.map fun x => .int .i64 x)

theorem Ows.form {w : World} {B : Nat} {v : Value} {l : List Int} (h : Ows w B v l) : ∃ a c, v = .slice a l.length c ∧ WInts w B a l := by
  obtain ⟨h1, h2⟩ := h
  rcases h2 with ⟨rfl, h0⟩ | ⟨g, cap, cur, rfl, hb, hg, hn, hm, hs, ht⟩
  · have : l = [] := List.eq_nil_of_length_eq_zero h0
    subst this
    exact ⟨none, 0, rfl, Nat.zero_le _, .inl rfl⟩
  · refine ⟨_, _, rfl, by omega, .inr ⟨g, 0, rfl, hb, fun i hi => ⟨?_, ?_⟩⟩⟩
    · rw [Nat.zero_add, cell_of_row w g i cur _ _ hg]
      have e : (cur.toList.take (l.length * 1))[i]? = some (.int .i64 l[i]) := by rw [ht]; simp [hi]
      rw [List.getElem?_take_of_lt (by omega)] at e
      simpa using e
    · rw [Nat.zero_add]
      simp [World.frozen?, hg]
theorem Ows.lit (w : World) (B : Nat) (hB : B ≤ w.heap.size) : Ows (w.alloc (.cells #[] 3)) B (.slice (some ⟨w.heap.size, 0, none⟩) 0 0) [] :=
  World.ownsRow_lit w #[] 0 hB (Nat.zero_le _) rfl
theorem Ows.lt {w : World} {B : Nat} {v : Value} {l : List Int} (h : Ows w B v l) : ∀ k, v.ownBlock = some k → B ≤ k ∧ k < w.heap.size := World.ownsRow.lt h
theorem Ows.kept {w w' : World} {B : Nat} {v : Value} {l : List Int} (h : Ows w B v l) {S : Nat → Prop} (k : Kept S w w') (hs : ∀ i, v.ownBlock = some i → ¬ S i) : Ows w' B v l := by
  refine ⟨h.1, ?_⟩
  rcases h.2 with hn | ⟨g, cap, cur, rfl, hb, hgg, rest⟩
  · exact .inl hn
  · refine .inr ⟨g, cap, cur, rfl, hb, ?_, rest⟩
    rw [k.block g (Array.getElem?_eq_some_iff.1 hgg).1 (hs g rfl)]
    exact hgg

/-- One number more. -/
theorem app_int {ops : Array Oper} {rest : List Oper} {o : Oper} {a : Act} {Q : Exit → Act → World → Prop} (W : World) (hgd : o.guard = none) (s x : Operand)
    (ho : o.op = .call { callee := .builtin .append, args := #[s, x], argTypes := #[35, 35] })
    (B : Nat) (v : Value) (l : List Int) (y : Int) (hs : a.eval s = v) (hx : a.eval x = .slice (some ⟨W.heap.size, 0, none⟩) 1 1)
    (hown : Ows W B v l) (hB : B ≤ W.heap.size) (hlen : l.length ≤ 1048576)
    (h : ∀ g cap w', Ows w' B (.slice (some ⟨g, 0, none⟩) (l.length + 1) cap) (l ++ [y]) → Kept (fun k => v.ownBlock = some k) W w' → (v.ownBlock = some g ∨ W.heap.size ≤ g) → wpList Try.prog ops Q rest (a.put o.dst (.slice (some ⟨g, 0, none⟩) (l.length + 1) cap)) w') :
    wpList Try.prog ops Q (o :: rest) a (W.alloc (.cells #[.int .i64 y] 3)) := by
  obtain ⟨i, hi, hzz⟩ := Option.map_eq_some_iff.1 infoInt
  simp only [Prod.mk.injEq] at hzz
  obtain ⟨hz, hsz, hb⟩ := hzz
  refine wpList_append_lies (W.alloc (.cells #[.int .i64 y] 3)) hgd s x 35 ho B 3 i (.int .i64 0) 1 8 Try.underlying35 hi hz hsz hb rfl (by omega) v l.length (l.map fun x => .int .i64 x) hs (World.ownsRow.alloc hown _)
    ⟨W.heap.size, 0, none⟩ 1 1 [.int .i64 y] hx rfl ?_ ?_ (by omega) (by unfold maxLen; omega) (by omega) (by simp; omega) _ rfl ?_
  · intro j u hu
    exact World.news_of_block (heap_alloc_new W _) j u hu
  · intro u hu
    simp at hu
    subst hu
    rfl
  · intro g cap w' h1 h2 h3 h4
    refine h g cap w' ?_ ?_ ?_
    · unfold Ows
      simpa using h1
    · have k1 : Kept (fun k => v.ownBlock = some k) W (W.alloc (.cells #[.int .i64 y] 3)) := (Kept.refl _ W).alloc _
      exact k1.trans ⟨h2.os, h2.tape, h2.output, h2.size, fun k hk hn => h2.block k hk (fun e => hn e.symm)⟩
    · rcases h3 with h3 | h3
      · exact .inl h3
      · exact .inr (by rw [h3]; simp)

end Go.Proofs.Ytlpbfbghgacjiaa.Ap0

/- The model's functions over tables: needs. -/
namespace Go.Proofs.Ytlpbfbghgacjiaa.Td5
open Go.RowKit
open Ta0 Ta1 Ta2 Tc2 Tc5 Td1 Td2 Ap0
open Nd0 (Kept Ints WInts set_other set_same lt_of_cell)
open Ss0 (bs bs_size ret_str bs_ext)
open Ss1 (tl tl_length tl_get tl_take bs_tl tl_bs tl_inj eqb)
set_option linter.unusedVariables false

theorem bne48 {a b : Bool} (h : a ≠ b) : ((48 + (a.toNat : Int)) != (48 + (b.toNat : Int))) = true := by
  cases a <;> cases b <;> first | rfl | exact absurd rfl h

/-- What stands while numbers are collected. -/
structure ON (w : World) (N : Int) (S : ByteArray) (v : Value) (l : List Int) (W : World) : Prop where
  lay : Lay W w.heap.size (.int .i64 N) (.string S)
  own : Ows W (w.heap.size + 1) v l
  siz : w.heap.size + 1 ≤ W.heap.size
  bel : Below w.heap.size w W
theorem ON.next {w W W' : World} {N : Int} {S : ByteArray} {v v' : Value} {l l' : List Int} (h : ON w N S v l W) (hk : Kept (fun k => v.ownBlock = some k) W W') (ho : Ows W' (w.heap.size + 1) v' l') : ON w N S v' l' W' :=
  ⟨h.lay.kept hk (fun e => by have := (h.own.lt _ e).1; omega), ho, by have := hk.size; have := h.siz; omega, h.bel.trans (hk.below (fun b hb => by have := (h.own.lt _ hb).1; omega) h.bel.size)⟩
theorem ON.below {w W W' : World} {N : Int} {S : ByteArray} {v : Value} {l : List Int} (h : ON w N S v l W) (k : Below W.heap.size W W') : ON w N S v l W' :=
  ⟨h.lay.below k, h.own.kept (S := fun _ => False) (Kept.ofBelow k) (fun _ _ h => h), by have := k.size; have := h.siz; omega, h.bel.trans (k.mono h.bel.size)⟩
theorem ON.drewN {w W : World} {N : Int} {S : ByteArray} {v : Value} {l : List Int} (h : ON w N S v l W) (n : Nat) : ON w N S v l (W.drewN n) := h.below (below_drewN (Below.refl _ _) n)
theorem ON.start (w : World) (N : Int) (S : ByteArray) : ON w N S (.slice (some ⟨w.heap.size + 1, 0, none⟩) 0 0) [] ((w.alloc (.cells #[.int .i64 N, .string S] 26)).alloc (.cells #[] 3)) := by
  refine ⟨(Lay.made _ _ _ _).alloc _, ?_, by simp, ((Below.refl _ _).alloc (Nat.le_refl _) _).alloc (by simp) _⟩
  have := Ows.lit (w.alloc (.cells #[.int .i64 N, .string S] 26)) (w.heap.size + 1) (by simp)
  simpa using this
theorem ON.wints {w W : World} {N : Int} {S : ByteArray} {v : Value} {l : List Int} (h : ON w N S v l W) : ∃ a c, v = .slice a l.length c ∧ WInts W w.heap.size a l := by
  obtain ⟨a, c, hv, hw⟩ := h.own.form
  refine ⟨a, c, hv, hw.1, ?_⟩
  rcases hw.2 with h0 | ⟨b, o, ha, hb, hc⟩
  · exact .inl h0
  · exact .inr ⟨b, o, ha, by omega, hc⟩

end Go.Proofs.Ytlpbfbghgacjiaa.Td5

/- The program's functions over tables: needs. -/
namespace Go.Proofs.Ytlpbfbghgacjiaa.Te4
open Go.RowKit
open Ta0 Ta1 Ta2 Tc2 Tc4 Tc5 Tc6 Tc7 Tc8 Td1 Td2 Td5 Te1 Ap0
open Nd0 (Kept Ints WInts set_other set_same lt_of_cell)
open Ss0 (bs bs_size ret_str bs_ext)
open Ss1 (tl tl_length tl_get tl_take bs_tl tl_bs tl_inj eqb)
set_option linter.unusedVariables false

theorem nd_upto (n : Nat) (F : Nat → Bool) (b : Nat) (hb : b < n) : ((List.range (2 ^ n)).any fun p => upto (2 ^ n) F p != upto (2 ^ n) F (p ^^^ 2 ^ (n - 1 - b))) = ndB n F b := by
  unfold ndB
  rw [Bool.eq_iff_iff, List.any_eq_true, List.any_eq_true]
  have e : ∀ p, p < 2 ^ n → (upto (2 ^ n) F p != upto (2 ^ n) F (p ^^^ 2 ^ (n - 1 - b))) = (F p != F (p ^^^ 2 ^ (n - 1 - b))) := fun p hp => by
    have h2 : p ^^^ 2 ^ (n - 1 - b) < 2 ^ n := Nat.xor_lt_two_pow hp (Nat.pow_lt_pow_right (by omega) (by omega))
    simp [upto, hp, h2]
  constructor
  · rintro ⟨p, hp, h⟩
    exact ⟨p, hp, by rw [e p (List.mem_range.1 hp)] at h; exact h⟩
  · rintro ⟨p, hp, h⟩
    exact ⟨p, hp, by rw [e p (List.mem_range.1 hp)]; exact h⟩

/-- What stands while the program collects the bits that a table needs. -/
structure OP (w : World) (n m g q : Nat) (S : ByteArray) (F : Nat → Bool) (v : Value) (l : List Int) (W : World) : Prop where
  on : ON w (n : Int) S v l W
  pk : Lay W q (.int .i64 (n : Int)) (.slice (some ⟨g, 0, none⟩) m m)
  wds : Wds W g m F
  sep : ∀ i, v.ownBlock = some i → i ≠ g ∧ i ≠ q
theorem OP.below {w W W' : World} {n m g q : Nat} {S : ByteArray} {F : Nat → Bool} {v : Value} {l : List Int} (h : OP w n m g q S F v l W) (k : Below W.heap.size W W') : OP w n m g q S F v l W' :=
  ⟨h.on.below k, h.pk.below k, h.wds.below k, h.sep⟩
theorem OP.next {w W W' : World} {n m g q g5 len cp : Nat} {S : ByteArray} {F : Nat → Bool} {v : Value} {l l' : List Int} (h : OP w n m g q S F v l W) (hm : 1 ≤ m) (hk : Kept (fun k => v.ownBlock = some k) W W') (hg : v.ownBlock = some g5 ∨ W.heap.size ≤ g5) (ho : Ows W' (w.heap.size + 1) (.slice (some ⟨g5, 0, none⟩) len cp) l') : OP w n m g q S F (.slice (some ⟨g5, 0, none⟩) len cp) l' W' :=
  ⟨h.on.next hk ho, h.pk.kept hk (fun e => (h.sep _ e).2 rfl), h.wds.kept hk (fun e => (h.sep _ e).1 rfl), fun i hi => by
    have hi' : g5 = i := by simpa [Value.ownBlock] using hi
    subst hi'
    rcases hg with e | e
    · exact h.sep _ e
    · have h1 := h.wds.lt hm
      have h2 := h.pk.lt
      omega⟩

end Go.Proofs.Ytlpbfbghgacjiaa.Te4
