/- Small texts of mine, one behind the other. -/
import Derived.Laws.MakeOwn
import Derived.Deep.RegionHeld3
import Derived.Test.YtbnjndloeflgiaaGreatRows
import Derived.WalkKit
import Derived.Laws.IdiomStrings
import Derived.Test.YtbnjndloeflgiaaGreatPkTA27
import Derived.Test.YtbnjndloeflgiaaGreatPkTA0
import Derived.Test.YtbnjndloeflgiaaGreatPkTA20
/- Packed tables in memory: a new one, its size, a bit read, a bit put. -/
namespace Go.Proofs.YtbnjndloeflgiaaGreat.Tc4
open Go.RowKit
open Ta0 Ta1 Tc2
open Nd0 (Kept set_other set_same lt_of_cell)
set_option linter.unusedVariables false

def nw (n : Nat) : Nat := (2 ^ n + 63) / 64
theorem nw_le {n : Nat} (h : n ≤ 12) : 1 ≤ nw n ∧ nw n ≤ 64 := by
  have := p12 h
  unfold nw; omega
theorem nw_at {n p : Nat} (h : p < 2 ^ n) : p / 64 < nw n := by unfold nw; omega
abbrev pv (n m g : Nat) : Value := .agg #[.int .i64 (n : Int), .slice (some ⟨g, 0, none⟩) m m]
def Wds (W : World) (g m : Nat) (F : Nat → Bool) : Prop := ∀ i, i < m → W.cell? ⟨g, i, none⟩ = some (.int .u64 (wd F i : Int)) ∧ W.frozen? ⟨g, i, none⟩ = false
theorem Wds.lt {W : World} {g m : Nat} {F : Nat → Bool} (h : Wds W g m F) (hm : 1 ≤ m) : g < W.heap.size := World.block_lt_of_cell? _ _ (h 0 (by omega)).1
theorem Wds.kept {W W' : World} {g m : Nat} {F : Nat → Bool} (h : Wds W g m F) {S : Nat → Prop} (k : Kept S W W') (hs : ¬ S g) : Wds W' g m F := fun i hi => by
  obtain ⟨h1, h2⟩ := h i hi
  have hg : g < W.heap.size := World.block_lt_of_cell? _ _ h1
  exact ⟨by rw [k.cell (p := ⟨g, i, none⟩) hg hs]; exact h1, by rw [k.frozen (p := ⟨g, i, none⟩) hg hs]; exact h2⟩
theorem Wds.below {W W' : World} {g m : Nat} {F : Nat → Bool} (h : Wds W g m F) (k : Below W.heap.size W W') : Wds W' g m F :=
  h.kept (S := fun _ => False) (Kept.ofBelow k) (fun h => h)
theorem Wds.congr {W : World} {g m : Nat} {F G : Nat → Bool} (h : Wds W g m F) (e : ∀ i, i < m → wd F i = wd G i) : Wds W g m G := fun i hi => by
  rw [← e i hi]; exact h i hi
theorem Wds.set {W : World} {g m j : Nat} {F G : Nat → Bool} (h : Wds W g m F) (hj : j < m) (e : ∀ i, i ≠ j → wd F i = wd G i) : Wds (W.setCell ⟨g, j, none⟩ (.int .u64 (wd G j : Int))) g m G := fun i hi => by
  obtain ⟨h1, h2⟩ := h i hi
  by_cases hij : i = j
  · subst hij
    exact ⟨set_same h1, by rw [World.frozen?_setCell]; exact h2⟩
  · rw [← e i hij]
    exact ⟨by rw [set_other (by simp <;> omega)]; exact h1, by rw [World.frozen?_setCell]; exact h2⟩
theorem infoU : (Tryz.prog.info? 61).map (fun i => (i.zero, i.size, i.bytes)) = some (some (.int .u64 0), 1, 8) := by kernel_rfl
def noughtsU (n : Nat) : Array Value := madeCells #[.int .u64 0] (n * 1)
theorem noughtsU_get (n j : Nat) (h : j < n) : (noughtsU n)[j]? = some (.int .u64 0) := by
  simp only [noughtsU, madeCells, Array.getElem?_map, Array.getElem?_range]
  rw [if_pos (by omega)]
  simp only [Option.map_some]
  have e : j % 1 = 0 := Nat.mod_one j
  exact congrArg (fun m => some ((#[.int .u64 0] : Array Value)[m]!)) e
theorem makeWords (n : Nat) (hn : n ≤ 1048576) (w : World) :
    (Instr.makeSlice 57 (.int .i64 (n : Int)) (.int .i64 (n : Int))).run Tryz.prog w = .ok (.slice (some ⟨w.heap.size, 0, none⟩) n n) (w.alloc (.cells (noughtsU n) 61)) := by
  obtain ⟨i, hi, hzz⟩ := Option.map_eq_some_iff.1 infoU
  simp only [Prod.mk.injEq] at hzz
  obtain ⟨hz, hs, hb⟩ := hzz
  have h := run_make (P := Tryz.prog) w 57 61 i _ Tryz.underlying57 hi hz .i64 .i64 n n (by omega) (Int.le_refl _) (by rw [hb]; omega) (by omega)
  rw [hs] at h
  simpa [noughtsU, Value.cells] using h

theorem pow_div (x j : Nat) : (x : Int) / (2 : Int) ^ j = ((x / 2 ^ j : Nat) : Int) := by push_cast; rfl

set_option maxHeartbeats 1000000 in
theorem newPacked (n : Nat) (w : World) (hn : n ≤ 12) :
    Calls Tryz.prog 25 #[.int .i64 (n : Int)] w fun e w' => ∃ g, e = .returned (pv n (nw n) g) ∧ w.heap.size ≤ g ∧ Wds w' g (nw n) (fun _ => false) ∧ Below w.heap.size w w' := by
  have hw := wsh hn
  obtain ⟨hp, hl⟩ := p12 hn
  have hnw := nw_le hn
  have hq : (((2 ^ n : Nat) : Int) + 64 - 1) / 64 = (nw n : Int) := by unfold nw; omega
  have hq2 : (((2 ^ n : Nat) : Int) + 63) / 64 = (nw n : Int) := by unfold nw; omega
  have HZ : Hid (∀ W : World, Wds (W.alloc (.cells (noughtsU (nw n)) 61)) W.heap.size (nw n) (fun _ => false)) := fun W i hi => ⟨by
    rw [World.cell?_alloc_new, wd_zero (by intro j _; rfl)]; exact noughtsU_get _ _ hi, by simp⟩
  have hmk := makeWords (nw n) (by omega)
  generalize nw n = m at *
  generalize 2 ^ n = P at *
  go_enter Tryz.func25, Tryz.ntmps25
  go_wp2
  refine bodyPost_ret (v := pv n m (w.heap.size + 1)) (by simp [results, Tryz.results25, go_sem]) rfl ⟨w.heap.size + 1, rfl, by omega, ?_, ?_⟩
  · have := HZ.out (w.alloc (.cells #[.int .i64 (n : Int), .slice (some ⟨w.heap.size + 1, 0, none⟩) m m] 59))
    simpa using this
  · exact ((Below.refl _ _).alloc (Nat.le_refl _) _).alloc (by simp) _

set_option maxHeartbeats 1000000 in
theorem size (n g : Nat) (w : World) (hn : n ≤ 12) :
    Calls Tryz.prog 26 #[pv n (nw n) g] w fun e w' => e = .returned (.int .i64 ((2 ^ n : Nat) : Int)) ∧ Below w.heap.size w w' := by
  have hw := wsh hn
  have HB : Hid (Below w.heap.size w (w.alloc (.cells #[.int .i64 (n : Int), .slice (some ⟨g, 0, none⟩) (nw n) (nw n)] 59))) := (Below.refl _ _).alloc (Nat.le_refl _) _
  generalize nw n = m at *
  generalize 2 ^ n = P at *
  go_enter Tryz.func26, Tryz.ntmps26
  go_wp2
  go_ret
  exact ⟨rfl, HB.out⟩

set_option maxHeartbeats 1000000 in
theorem at_ (n g p : Nat) (F : Nat → Bool) (w : World) (hn : n ≤ 12) (hp : p < 2 ^ n) (hW : Wds w g (nw n) F) :
    Calls Tryz.prog 42 #[pv n (nw n) g, .int .i64 (p : Int)] w fun e w' => e = .returned (.int .i64 ((F p).toNat : Int)) ∧ Below w.heap.size w w' := by
  have hpn := p12 hn
  have hnw := nw_le hn
  have hpa := nw_at hp
  have hlt := wd_lt F (p / 64)
  have c0 := (hW _ hpa).1
  have hg := hW.lt (by omega)
  have HA : Hid (wd F (p / 64) / 2 ^ (p % 64) % 2 = (F p).toNat) := wd_at F p
  have HB : Hid (Below w.heap.size w (w.alloc (.cells #[.int .i64 (n : Int), .slice (some ⟨g, 0, none⟩) (nw n) (nw n)] 59))) := (Below.refl _ _).alloc (Nat.le_refl _) _
  clear hW
  generalize nw n = m at *
  generalize 2 ^ n = P at *
  generalize wd F (p / 64) = x at *
  go_enter Tryz.func42, Tryz.ntmps42
  go_wp2
  go_ret
  refine ⟨ret_int ?_, HB.out⟩
  rw [pow_div, show (1 : Int) = ((1 : Nat) : Int) from rfl, bits_and_u64_nat _ _ (Nat.lt_of_le_of_lt (Nat.div_le_self _ _) hlt) (by omega), Nat.and_one_is_mod, HA.out]
  have := (F p).toNat_le
  unfold wrap64; omega

set_option maxHeartbeats 1000000 in
theorem put (n g k : Nat) (F : Nat → Bool) (w : World) (hn : n ≤ 12) (hk : k < 2 ^ n) (hF : F k = true) (hW : Wds w g (nw n) (upto k F)) :
    Calls Tryz.prog 29 #[pv n (nw n) g, .int .i64 (k : Int)] w fun e w' => e = .returned (.tuple #[]) ∧ Wds w' g (nw n) (upto (k + 1) F) ∧ Kept (fun b => b = g) w w' := by
  have hpn := p12 hn
  have hnw := nw_le hn
  have hpa := nw_at hk
  have hlt := wd_lt (upto k F) (k / 64)
  have c0 := (hW _ hpa).1
  have f0 := (hW _ hpa).2
  have hg := hW.lt (by omega)
  have HW : Hid (Wds w g (nw n) (upto k F)) := hW
  clear hW
  generalize nw n = m at *
  generalize 2 ^ n = P at *
  generalize hX : wd (upto k F) (k / 64) = x at *
  go_enter Tryz.func29, Tryz.ntmps29
  go_wp2
  go_region
  clear hpn
  have e1 : IntKind.u64.wrap ((2 : Int) ^ (k % 64)) = ((2 ^ (k % 64) : Nat) : Int) := by
    rw [show (2 : Int) ^ (k % 64) = ((2 ^ (k % 64) : Nat) : Int) by push_cast; rfl, wrapu (Nat.lt_of_lt_of_le (Nat.pow_lt_pow_right (by omega) (by omega : k % 64 < 64)) (by decide))]
  have e2 : bits .or .u64 (x : Int) (IntKind.u64.wrap ((2 : Int) ^ (k % 64))) = ((wd (upto (k + 1) F) (k / 64) : Nat) : Int) := by
    rw [e1, bits_or_u64_nat _ _ hlt (Nat.lt_of_lt_of_le (Nat.pow_lt_pow_right (by omega) (by omega : k % 64 < 64)) (by decide)), wd_next_yes F k hF, hX]
  rw [e2]
  exact bodyPost_end (v := .tuple #[]) (by simp [results, Tryz.results29, go_sem]) rfl ⟨rfl, (HW.out.set hpa (fun i hi => (wd_next_other F k i hi).symm)).kept (S := fun _ => False) (((Kept.refl _ _).alloc _).drew) (fun h => h), (((Kept.refl (fun b => b = g) w).setCell (p := ⟨g, k / 64, none⟩) rfl _).alloc _).drew⟩

end Go.Proofs.YtbnjndloeflgiaaGreat.Tc4

/- Packed tables: one made of a table. -/
namespace Go.Proofs.YtbnjndloeflgiaaGreat.Tc5
open Go.RowKit
open Ta0 Ta1 Tc2 Tc4
open Nd0 (Kept set_other set_same lt_of_cell)
open Ss0 (bs bs_size)
open Ss1 (tl tl_length tl_get tl_take tl_bs)
set_option linter.unusedVariables false

structure Lay (W : World) (b : Nat) (x y : Value) : Prop where
  c0 : W.cell? ⟨b, 0, none⟩ = some x
  c1 : W.cell? ⟨b, 1, none⟩ = some y
  f0 : W.frozen? ⟨b, 0, none⟩ = false
  f1 : W.frozen? ⟨b, 1, none⟩ = false
theorem Lay.lt {W : World} {b : Nat} {x y : Value} (h : Lay W b x y) : b < W.heap.size := World.block_lt_of_cell? _ _ h.c0
theorem Lay.kept {W W' : World} {b : Nat} {x y : Value} (h : Lay W b x y) {S : Nat → Prop} (k : Kept S W W') (hs : ¬ S b) : Lay W' b x y :=
  ⟨by rw [k.cell (p := ⟨b, 0, none⟩) h.lt hs]; exact h.c0, by rw [k.cell (p := ⟨b, 1, none⟩) h.lt hs]; exact h.c1, by rw [k.frozen (p := ⟨b, 0, none⟩) h.lt hs]; exact h.f0, by rw [k.frozen (p := ⟨b, 1, none⟩) h.lt hs]; exact h.f1⟩
theorem Lay.below {W W' : World} {b : Nat} {x y : Value} (h : Lay W b x y) (k : Below W.heap.size W W') : Lay W' b x y :=
  h.kept (S := fun _ => False) (Kept.ofBelow k) (fun h => h)
theorem Lay.made (W : World) (x y : Value) (T : Nat) : Lay (W.alloc (.cells #[x, y] T)) W.heap.size x y := ⟨by simp, by simp, by simp, by simp⟩
theorem Lay.alloc {W : World} {b : Nat} {x y : Value} (h : Lay W b x y) (o : Obj) : Lay (W.alloc o) b x y := h.kept (S := fun _ => False) ((Kept.refl _ _).alloc _) (fun h => h)
theorem Lay.put {W : World} {b : Nat} {x y : Value} (h : Lay W b x y) (u v : Value) : Lay ((W.setCell ⟨b, 0, none⟩ u).setCell ⟨b, 1, none⟩ v) b u v :=
  ⟨by rw [set_other (by simp)]; exact set_same h.c0, set_same (by rw [set_other (by simp)]; exact h.c1), by rw [World.frozen?_setCell, World.frozen?_setCell]; exact h.f0, by rw [World.frozen?_setCell, World.frozen?_setCell]; exact h.f1⟩
theorem kset {S : Nat → Prop} {u w : World} (h : Kept S u w) {b o : Nat} (hb : S b) (x : Value) : Kept S u (w.setCell ⟨b, o, none⟩ x) := h.setCell (p := ⟨b, o, none⟩) hb x

theorem bs_tab_get (n : Nat) (F : Nat → Bool) (k : Nat) (h : k < (bs (tab n F)).size) : (bs (tab n F))[k] = sgn (F k) := by
  rw [tl_get]
  have e : tl (bs (tab n F)) = tab n F := tl_bs _
  have h2 : k < (tab n F).length := by rw [bs_size] at h; exact h
  have := tab_get n F k h2
  rw [← this]
  congr 1

set_option maxRecDepth 100000 in
set_option maxHeartbeats 2000000 in
theorem pack (n : Nat) (F : Nat → Bool) (w : World) (hn : n ≤ 12) :
    Calls Tryz.prog 41 #[tv (n : Int) (bs (tab n F))] w fun e w' => ∃ g, e = .returned (pv n (nw n) g) ∧ w.heap.size ≤ g ∧ Wds w' g (nw n) (upto (2 ^ n) F) ∧ Below w.heap.size w w' := by
  obtain ⟨hp, hl⟩ := p12 hn
  have hnw := nw_le hn
  have HSZ : Hid ((bs (tab n F)).size = 2 ^ n) := by show _ = _; rw [bs_size, tab_length]
  have HGT : Hid (∀ k (h : k < (bs (tab n F)).size), (bs (tab n F))[k] = sgn (F k)) := bs_tab_get n F
  have HNP : Hid (∀ W, Calls Tryz.prog 25 #[.int .i64 (n : Int)] W fun e w' => ∃ g, e = .returned (pv n (nw n) g) ∧ W.heap.size ≤ g ∧ Wds w' g (nw n) (fun _ => false) ∧ Below W.heap.size W w') := fun W => newPacked n W hn
  have HSI : Hid (∀ W g, Calls Tryz.prog 26 #[pv n (nw n) g] W fun e w' => e = .returned (.int .i64 ((2 ^ n : Nat) : Int)) ∧ Below W.heap.size W w') := fun W g => size n g W hn
  have HPU : Hid (∀ W g k, k < 2 ^ n → F k = true → Wds W g (nw n) (upto k F) → Calls Tryz.prog 29 #[pv n (nw n) g, .int .i64 (k : Int)] W fun e w' => e = .returned (.tuple #[]) ∧ Wds w' g (nw n) (upto (k + 1) F) ∧ Kept (fun b => b = g) W w') := fun W g k h1 h2 h3 => put n g k F W hn h1 h2 h3
  generalize bs (tab n F) = S at *
  generalize nw n = m at *
  generalize 2 ^ n = P at *
  go_enter Tryz.func41, Tryz.ntmps41
  go_wp2_with fail
  refine (HNP.out _).mono ?_
  rintro e w1 ⟨g, rfl, hg, hw1, hb1⟩
  have HX0 : Hid (Lay w1 w.heap.size (.int .i64 (n : Int)) (.string S)) := (((Lay.made w _ _ _).alloc _).below hb1)
  have HR0 : Hid (Lay w1 (w.heap.size + 1) (.int .i64 0) (.slice none 0 0)) := by
    have := Lay.made (w.alloc (.cells #[.int .i64 (n : Int), .string S] 30)) (.int .i64 0) (.slice none 0 0) 59
    have := this.below hb1
    show Lay _ _ _ _
    simpa using this
  have hsz1 : w.heap.size + 2 ≤ g := by simpa using hg
  have hgl := hw1.lt (by omega)
  have HB1 : Hid (Below w.heap.size w w1) := (((Below.refl _ _).alloc (Nat.le_refl _) _).alloc (by simp) _).trans (hb1.mono (by simp; omega))
  have HW1 : Hid (Wds w1 g m (fun _ => false)) := hw1
  clear hb1 hw1 hg
  go_wp2_with fail
  refine (HSI.out _ g).mono ?_
  rintro e w2 ⟨rfl, hb2⟩
  have HX2 : Hid (Lay w2 w.heap.size (.int .i64 (n : Int)) (.string S)) := (HX0.out.alloc _).below hb2
  have HR2 : Hid (Lay w2 (w.heap.size + 1) (.int .i64 0) (.slice none 0 0)) := (HR0.out.alloc _).below hb2
  have HQ2 : Hid (Lay w2 w1.heap.size (.int .i64 (n : Int)) (.slice (some ⟨g, 0, none⟩) m m)) := (Lay.made w1 _ _ _).below hb2
  have HW2 : Hid (Wds w2 g m (upto 0 F)) := ((HW1.out.kept (S := fun _ => False) ((Kept.refl _ _).alloc _) (fun h => h)).below hb2).congr fun i _ => by rw [upto_zero, wd_zero (by intro j _; rfl)]
  have HB2 : Hid (Below w.heap.size w w2) := (HB1.out.alloc HB1.out.size _).trans (hb2.mono (by have := HB1.out.size; simp; omega))
  clear hb2
  have hb0 := HX2.out.lt
  go_wp2_with fail
  go_loopw [10] (fun i wr => ∃ k : Nat, k ≤ P ∧ i = .int .i64 k ∧ Lay wr w.heap.size (.int .i64 (n : Int)) (.string S) ∧ Lay wr (w.heap.size + 1) (.int .i64 0) (.slice none 0 0) ∧ Lay wr w1.heap.size (.int .i64 (n : Int)) (.slice (some ⟨g, 0, none⟩) m m) ∧ Wds wr g m (upto k F) ∧ Below w.heap.size w wr) (fun i _ => P - (intOf i).toNat)
  case atStart => exact ⟨0, Nat.zero_le _, rfl, HX2.out, HR2.out, HQ2.out, HW2.out, HB2.out⟩
  case round =>
    obtain ⟨k, hk, rfl, hx, hr, hq, hw, hb⟩ := hrel
    have HX : Hid (Lay wr w.heap.size (.int .i64 (n : Int)) (.string S)) := hx
    have HR : Hid (Lay wr (w.heap.size + 1) (.int .i64 0) (.slice none 0 0)) := hr
    have HQ : Hid (Lay wr w1.heap.size (.int .i64 (n : Int)) (.slice (some ⟨g, 0, none⟩) m m)) := hq
    have HW : Hid (Wds wr g m (upto k F)) := hw
    have HB : Hid (Below w.heap.size w wr) := hb
    clear hb hw
    obtain ⟨x0, x1, _, _⟩ := hx
    obtain ⟨q0, q1, _, _⟩ := hq
    by_cases hlt : k < P
    · clear hr
      have hks : k < S.size := by rw [HSZ.out]; exact hlt
      have hkz : (k : Int) < (P : Int) := by omega
      have HG : Hid (S[k] = sgn (F k)) := HGT.out k hks
      cases hF : F k
      · have h9 : ((S[k].toNat : Int) == 49) = false := by rw [HG.out, hF]; rfl
        have HF : Hid (F k = false) := hF
        clear hF
        go_wp2
        go_roundw
        case rel => exact ⟨k + 1, by omega, by go_num, HX.out, HR.out, HQ.out, HW.out.congr fun i _ => (wd_next_no F k i HF.out).symm, HB.out⟩
        case measure => simp [intOf]; omega
      · have h9 : ((S[k].toNat : Int) == 49) = true := by rw [HG.out, hF]; rfl
        have HF : Hid (F k = true) := hF
        clear hF
        go_wp2_with (go_at_call 29; refine (HPU.out _ g k hlt HF.out HW.out).mono ?_; rintro e w3 ⟨rfl, hw3, hk3⟩)
        go_roundw
        case rel => exact ⟨k + 1, by omega, by go_num, HX.out.kept hk3 (by omega), HR.out.kept hk3 (by omega), HQ.out.kept hk3 (by omega), hw3, HB.out.trans (hk3.below (fun b hb => by omega) HB.out.size)⟩
        case measure => simp [intOf]; omega
    · obtain ⟨r0, r1, r2, r3⟩ := hr
      have hkP : k = P := by omega
      have HWP : Hid (Wds wr g m (upto P F)) := by rw [← hkP]; exact HW.out
      clear hkP
      have HZ := HR.out.put (.int .i64 (n : Int)) (.slice (some ⟨g, 0, none⟩) m m)
      have HK : Kept (fun b => b = w.heap.size + 1) wr ((wr.setCell ⟨w.heap.size + 1, 0, none⟩ (.int .i64 (n : Int))).setCell ⟨w.heap.size + 1, 1, none⟩ (.slice (some ⟨g, 0, none⟩) m m)) := kset (S := fun b => b = w.heap.size + 1) (kset (S := fun b => b = w.heap.size + 1) (Kept.refl (fun b => b = w.heap.size + 1) wr) rfl _) rfl _
      have HWZ := HWP.out.kept HK (by omega)
      have HBZ := HB.out.trans (HK.below (B := w.heap.size) (fun b hb => by omega) HB.out.size)
      have HH : Hid (∃ W, W = (wr.setCell ⟨w.heap.size + 1, 0, none⟩ (.int .i64 (n : Int))).setCell ⟨w.heap.size + 1, 1, none⟩ (.slice (some ⟨g, 0, none⟩) m m) ∧ Lay W (w.heap.size + 1) (.int .i64 (n : Int)) (.slice (some ⟨g, 0, none⟩) m m) ∧ Wds W g m (upto P F) ∧ Below w.heap.size w W) := ⟨_, rfl, HZ, HWZ, HBZ⟩
      clear HZ HK HWZ HBZ
      go_wp2
      obtain ⟨W, hW, hz, hwz, hbz⟩ := HH.out
      rw [← hW]
      obtain ⟨z0, z1, _, _⟩ := hz
      exact bodyPost_ret (v := pv n m g) (by simp [results, Tryz.results41, go_sem, z0, z1]) rfl ⟨g, rfl, by omega, hwz, hbz⟩

end Go.Proofs.YtbnjndloeflgiaaGreat.Tc5

/- bits.OnesCount64: how many bits of a word are set. -/
namespace Go.Proofs.YtbnjndloeflgiaaGreat.Tc1
open Go.RowKit
open Ta0 Ta1
set_option linter.unusedVariables false

end Go.Proofs.YtbnjndloeflgiaaGreat.Tc1

/- Packed tables: the table of one; how many bits are set; the bits in use; whether it needs a bit. -/
namespace Go.Proofs.YtbnjndloeflgiaaGreat.Tc6
open Go.RowKit
open Ta0 Ta1 Tc2 Tc4 Tc5
open Nd0 (Kept set_other set_same lt_of_cell)
open Ss0 (bs bs_size)
open Ss1 (tl tl_length tl_get tl_take tl_bs)
set_option linter.unusedVariables false

theorem infoB : (Tryz.prog.info? 5).map (fun i => (i.zero, i.size, i.bytes)) = some (some (.int .u8 0), 1, 1) := by kernel_rfl
def noughtsB (n : Nat) : Array Value := madeCells #[.int .u8 0] (n * 1)
theorem noughtsB_get (n j : Nat) (h : j < n) : (noughtsB n)[j]? = some (.int .u8 0) := by
  simp only [noughtsB, madeCells, Array.getElem?_map, Array.getElem?_range]
  rw [if_pos (by omega)]
  simp only [Option.map_some]
  have e : j % 1 = 0 := Nat.mod_one j
  exact congrArg (fun m => some ((#[.int .u8 0] : Array Value)[m]!)) e
theorem makeBytes (n : Nat) (hn : n ≤ 1048576) (w : World) :
    (Instr.makeSlice 22 (.int .i64 (n : Int)) (.int .i64 (n : Int))).run Tryz.prog w = .ok (.slice (some ⟨w.heap.size, 0, none⟩) n n) (w.alloc (.cells (noughtsB n) 5)) := by
  obtain ⟨i, hi, hzz⟩ := Option.map_eq_some_iff.1 infoB
  simp only [Prod.mk.injEq] at hzz
  obtain ⟨hz, hs, hb⟩ := hzz
  have h := run_make (P := Tryz.prog) w 22 5 i _ Tryz.underlying22 hi hz .i64 .i64 n n (by omega) (Int.le_refl _) (by rw [hb]; omega) (by omega)
  rw [hs] at h
  simpa [noughtsB, Value.cells] using h
def Sgs (W : World) (c P k : Nat) (G : Nat → Bool) : Prop := ∀ j, j < P → (∃ v : Int, W.cell? ⟨c, j, none⟩ = some (.int .u8 v) ∧ (j < k → v = ((sgn (G j)).toNat : Int))) ∧ W.frozen? ⟨c, j, none⟩ = false
theorem Sgs.kept {W W' : World} {c P k : Nat} {G : Nat → Bool} (h : Sgs W c P k G) {S : Nat → Prop} (q : Kept S W W') (hs : ¬ S c) : Sgs W' c P k G := fun j hj => by
  obtain ⟨⟨v, h1, h2⟩, h3⟩ := h j hj
  have hg : c < W.heap.size := World.block_lt_of_cell? _ _ h1
  exact ⟨⟨v, by rw [q.cell (p := ⟨c, j, none⟩) hg hs]; exact h1, h2⟩, by rw [q.frozen (p := ⟨c, j, none⟩) hg hs]; exact h3⟩
theorem Sgs.below {W W' : World} {c P k : Nat} {G : Nat → Bool} (h : Sgs W c P k G) (q : Below W.heap.size W W') : Sgs W' c P k G := h.kept (S := fun _ => False) (Kept.ofBelow q) (fun h => h)
theorem Sgs.set {W : World} {c P k : Nat} {G : Nat → Bool} (h : Sgs W c P k G) (v : Int) (hv : v = ((sgn (G k)).toNat : Int)) : Sgs (W.setCell ⟨c, k, none⟩ (.int .u8 v)) c P (k + 1) G := fun j hj => by
  obtain ⟨⟨u, h1, h2⟩, h3⟩ := h j hj
  by_cases e : j = k
  · subst e
    exact ⟨⟨v, set_same h1, fun _ => hv⟩, by rw [World.frozen?_setCell]; exact h3⟩
  · exact ⟨⟨u, by rw [set_other (by simp <;> omega)]; exact h1, fun x => h2 (by omega)⟩, by rw [World.frozen?_setCell]; exact h3⟩
theorem Sgs.made (W : World) (P : Nat) (G : Nat → Bool) : Sgs (W.alloc (.cells (noughtsB P) 5)) W.heap.size P 0 G := fun j hj =>
  ⟨⟨0, by rw [World.cell?_alloc_new]; exact noughtsB_get _ _ hj, fun x => by omega⟩, by simp⟩
theorem Sgs.text {W : World} {c n : Nat} {G : Nat → Bool} (h : Sgs W c (2 ^ n) (2 ^ n) G) : (convert 22 9 (.slice (some ⟨c, 0, none⟩) (2 ^ n) (2 ^ n))).run Tryz.prog W = .ok (.string (bs (tab n G))) W := by
  have := run_convert_bytes_back (P := Tryz.prog) W 22 9 5 ⟨c, 0, none⟩ (2 ^ n) (tab n G) Tryz.underlying22 Tryz.underlying5 Tryz.underlying9 (fun j hj => by
    obtain ⟨⟨v, h1, h2⟩, _⟩ := h j (by rw [tab_length] at hj; exact hj)
    rw [tab_get, ← h2 (by rw [tab_length] at hj; exact hj)]
    rw [Addr.add_lit, Nat.zero_add]; exact h1)
  rw [tab_length] at this
  exact this

set_option maxRecDepth 100000 in
set_option maxHeartbeats 2000000 in
theorem table (n g : Nat) (G : Nat → Bool) (w : World) (hn : n ≤ 12) (hW : Wds w g (nw n) G) :
    Calls Tryz.prog 30 #[pv n (nw n) g] w fun e w' => e = .returned (tv (n : Int) (bs (tab n G))) ∧ Below w.heap.size w w' := by
  obtain ⟨hp, hl⟩ := p12 hn
  have hnw := nw_le hn
  have hgl := hW.lt (by omega)
  have HW : Hid (Wds w g (nw n) G) := hW
  have HSI : Hid (∀ W, Calls Tryz.prog 26 #[pv n (nw n) g] W fun e w' => e = .returned (.int .i64 ((2 ^ n : Nat) : Int)) ∧ Below W.heap.size W w') := fun W => size n g W hn
  have HAT : Hid (∀ (W : World) (k : Nat), k < 2 ^ n → Wds W g (nw n) G → Calls Tryz.prog 42 #[pv n (nw n) g, .int .i64 (k : Int)] W fun e w' => e = .returned (.int .i64 ((G k).toNat : Int)) ∧ Below W.heap.size W w') := fun W k h1 h2 => at_ n g k G W hn h1 h2
  have HTX : Hid (∀ W c, Sgs W c (2 ^ n) (2 ^ n) G → (convert 22 9 (.slice (some ⟨c, 0, none⟩) (2 ^ n) (2 ^ n))).run Tryz.prog W = .ok (.string (bs (tab n G))) W) := fun W c h => h.text
  have hmk := makeBytes (2 ^ n) (by omega)
  clear hW
  generalize bs (tab n G) = S at *
  generalize nw n = m at *
  generalize 2 ^ n = P at *
  go_enter Tryz.func30, Tryz.ntmps30
  go_wp2_with fail
  refine (HSI.out _).mono ?_
  rintro e w1 ⟨rfl, hb1⟩
  have HX0 : Hid (Lay w1 w.heap.size (.int .i64 (n : Int)) (.slice (some ⟨g, 0, none⟩) m m)) := (((Lay.made w _ _ _).alloc _).below hb1)
  have HR0 : Hid (Lay w1 (w.heap.size + 1) (.int .i64 0) (.string ByteArray.empty)) := by
    have := (Lay.made (w.alloc (.cells #[.int .i64 (n : Int), .slice (some ⟨g, 0, none⟩) m m] 59)) (.int .i64 0) (.string ByteArray.empty) 30).below hb1
    show Lay _ _ _ _
    simpa using this
  have HB1 : Hid (Below w.heap.size w w1) := (((Below.refl _ _).alloc (Nat.le_refl _) _).alloc (by simp) _).trans (hb1.mono (by simp; omega))
  have hs1 : w.heap.size + 2 ≤ w1.heap.size := by simpa using hb1.size
  clear hb1
  go_wp2_with fail
  clear hmk
  have HX1 : Hid (Lay (w1.alloc (.cells (noughtsB P) 5)) w.heap.size (.int .i64 (n : Int)) (.slice (some ⟨g, 0, none⟩) m m)) := HX0.out.alloc _
  go_loopw [10] (fun i wr => ∃ k : Nat, k ≤ P ∧ i = .int .i64 k ∧ Lay wr w.heap.size (.int .i64 (n : Int)) (.slice (some ⟨g, 0, none⟩) m m) ∧ Lay wr (w.heap.size + 1) (.int .i64 0) (.string ByteArray.empty) ∧ Sgs wr w1.heap.size P k G ∧ Below w.heap.size w wr) (fun i _ => P - (intOf i).toNat)
  case atStart => exact ⟨0, Nat.zero_le _, rfl, HX0.out.alloc _, HR0.out.alloc _, Sgs.made _ _ _, HB1.out.alloc HB1.out.size _⟩
  case round =>
    obtain ⟨k, hk, rfl, hx, hr, hq, hb⟩ := hrel
    have HX : Hid (Lay wr w.heap.size (.int .i64 (n : Int)) (.slice (some ⟨g, 0, none⟩) m m)) := hx
    have HR : Hid (Lay wr (w.heap.size + 1) (.int .i64 0) (.string ByteArray.empty)) := hr
    have HQ : Hid (Sgs wr w1.heap.size P k G) := hq
    have HB : Hid (Below w.heap.size w wr) := hb
    clear hb hq
    obtain ⟨x0, x1, _, _⟩ := hx
    by_cases hlt : k < P
    · clear hr
      have hkz : (k : Int) < (P : Int) := by omega
      cases hG : G k
      all_goals
        have HG : Hid (G k = _) := hG
        go_wp2_with fail
        refine (HAT.out _ k hlt (HW.out.below HB.out)).mono ?_
        rw [hG]
        clear hG
        rintro e w3 ⟨rfl, hb3⟩
        have HQ3 : Hid (Sgs w3 w1.heap.size P k G) := HQ.out.below hb3
        have HX3 : Hid (Lay w3 w.heap.size (.int .i64 (n : Int)) (.slice (some ⟨g, 0, none⟩) m m)) := HX.out.below hb3
        have HR3 : Hid (Lay w3 (w.heap.size + 1) (.int .i64 0) (.string ByteArray.empty)) := HR.out.below hb3
        have HB3 : Hid (Below w.heap.size w w3) := HB.out.trans (hb3.mono HB.out.size)
        clear hb3
        obtain ⟨⟨v, v0, _⟩, v1⟩ := HQ3.out k hlt
        go_wp2
        go_roundw
        case rel => exact ⟨k + 1, by omega, by go_num, HX3.out.kept (S := fun b => b = w1.heap.size) (kset (S := fun b => b = w1.heap.size) (Kept.refl (fun b => b = w1.heap.size) w3) rfl _) (by omega), HR3.out.kept (S := fun b => b = w1.heap.size) (kset (S := fun b => b = w1.heap.size) (Kept.refl (fun b => b = w1.heap.size) w3) rfl _) (by omega), HQ3.out.set _ (by rw [HG.out]; rfl), HB3.out.trans ((kset (S := fun b => b = w1.heap.size) (Kept.refl (fun b => b = w1.heap.size) w3) rfl _).below (fun b hb => by omega) HB3.out.size)⟩
        case measure => simp [intOf]; omega
    · obtain ⟨r0, r1, r2, r3⟩ := hr
      have hkP : k = P := by omega
      have hcv := HTX.out wr w1.heap.size (by have := HQ.out; rwa [hkP] at this)
      clear hkP
      have HZ := HR.out.put (.int .i64 (n : Int)) (.string S)
      have HK : Kept (fun b => b = w.heap.size + 1) wr ((wr.setCell ⟨w.heap.size + 1, 0, none⟩ (.int .i64 (n : Int))).setCell ⟨w.heap.size + 1, 1, none⟩ (.string S)) := kset (S := fun b => b = w.heap.size + 1) (kset (S := fun b => b = w.heap.size + 1) (Kept.refl (fun b => b = w.heap.size + 1) wr) rfl _) rfl _
      have HBZ := HB.out.trans (HK.below (B := w.heap.size) (fun b hb => by omega) HB.out.size)
      have HH : Hid (∃ W, W = (wr.setCell ⟨w.heap.size + 1, 0, none⟩ (.int .i64 (n : Int))).setCell ⟨w.heap.size + 1, 1, none⟩ (.string S) ∧ Lay W (w.heap.size + 1) (.int .i64 (n : Int)) (.string S) ∧ Below w.heap.size w W) := ⟨_, rfl, HZ, HBZ⟩
      clear HZ HK HBZ
      go_wp2
      obtain ⟨W, hW, hz, hbz⟩ := HH.out
      rw [← hW]
      obtain ⟨z0, z1, _, _⟩ := hz
      exact bodyPost_ret (v := tv (n : Int) S) (by simp [results, Tryz.results30, go_sem, z0, z1]) rfl ⟨rfl, hbz⟩

end Go.Proofs.YtbnjndloeflgiaaGreat.Tc6
