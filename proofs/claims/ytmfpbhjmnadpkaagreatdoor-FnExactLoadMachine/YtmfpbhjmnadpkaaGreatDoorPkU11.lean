/- Small texts of mine, one behind the other. -/
import Derived.Laws.IdiomCopy
import Derived.Test.YtmfpbhjmnadpkaaGreatDoorPkU10
import Derived.Test.YtmfpbhjmnadpkaaGreatDoorPkU1
import Derived.Test.YtmfpbhjmnadpkaaGreatDoorPkU4
import Derived.Test.YtmfpbhjmnadpkaaGreatDoorPkU6
/- Packed tables: two put together, by and or by exclusive or. -/
namespace Go.Proofs.YtmfpbhjmnadpkaaGreatDoor.Tc9
open Go.RowKit
open Ta0 Ta1 Tc2 Tc4 Tc5 Tc7 Tc8
open Nd0 (Kept set_other set_same lt_of_cell)
set_option linter.unusedVariables false

/-- What stands while the words of two are put together. -/
structure WT (w : World) (n m g h q g2 : Nat) (F G H : Nat → Bool) (k : Nat) (W : World) : Prop where
  lay : Lay W w.heap.size (.int .i64 (n : Int)) (.slice (some ⟨g, 0, none⟩) m m)
  lay2 : Lay W (w.heap.size + 1) (.int .i64 (n : Int)) (.slice (some ⟨h, 0, none⟩) m m)
  res : Lay W (w.heap.size + 2) (.int .i64 0) (.slice none 0 0)
  new : Lay W q (.int .i64 (n : Int)) (.slice (some ⟨g2, 0, none⟩) m m)
  wds : Wds W g m F
  wds2 : Wds W h m G
  wdk : Wdk W g2 m k H
  bel : Below w.heap.size w W
theorem WT.below {w : World} {n m g h q g2 k : Nat} {F G H : Nat → Bool} {W W' : World} (s : WT w n m g h q g2 F G H k W) (b : Below W.heap.size W W') : WT w n m g h q g2 F G H k W' :=
  ⟨s.lay.below b, s.lay2.below b, s.res.below b, s.new.below b, s.wds.below b, s.wds2.below b, s.wdk.below b, s.bel.trans (b.mono s.bel.size)⟩
theorem WT.drew {w : World} {n m g h q g2 k : Nat} {F G H : Nat → Bool} {W : World} (s : WT w n m g h q g2 F G H k W) : WT w n m g h q g2 F G H k W.drew :=
  s.below (below_drewN (Below.refl _ _) 1)
theorem WT.set {w : World} {n m g h q g2 k : Nat} {F G H : Nat → Bool} {W : World} (s : WT w n m g h q g2 F G H k W) (hg : g ≠ g2) (hh : h ≠ g2) (h0 : w.heap.size + 3 ≤ g2) (hq : g2 ≠ q) (v : Int) (hv : v = (wd H k : Int)) : WT w n m g h q g2 F G H (k + 1) (W.setCell ⟨g2, k, none⟩ (.int .u64 v)) := by
  have K := kset (S := fun b => b = g2) (Kept.refl (fun b => b = g2) W) (b := g2) (o := k) rfl (.int .u64 v)
  exact ⟨s.lay.kept K (by omega), s.lay2.kept K (by omega), s.res.kept K (by omega), s.new.kept K (fun e => hq e.symm), s.wds.kept K hg, s.wds2.kept K hh, s.wdk.set v hv, s.bel.trans (K.below (fun b hb => by omega) s.bel.size)⟩

end Go.Proofs.YtmfpbhjmnadpkaaGreatDoor.Tc9

/- Packed tables: a half. -/
namespace Go.Proofs.YtmfpbhjmnadpkaaGreatDoor.Tc10
open Go.RowKit
open Ta0 Ta1 Tc2 Tc4 Tc5 Tc7 Tc8
open Nd0 (Kept set_other set_same lt_of_cell)
set_option linter.unusedVariables false

/-- What stands while a half is made. -/
structure WH (w : World) (n m n2 m2 g q g2 : Nat) (F H : Nat → Bool) (W : World) : Prop where
  lay : Lay W w.heap.size (.int .i64 (n : Int)) (.slice (some ⟨g, 0, none⟩) m m)
  res : Lay W (w.heap.size + 1) (.int .i64 0) (.slice none 0 0)
  new : Lay W q (.int .i64 (n2 : Int)) (.slice (some ⟨g2, 0, none⟩) m2 m2)
  wds : Wds W g m F
  wdk : Wdk W g2 m2 0 H
  bel : Below w.heap.size w W
theorem WH.below {w : World} {n m n2 m2 g q g2 : Nat} {F H : Nat → Bool} {W W' : World} (h : WH w n m n2 m2 g q g2 F H W) (b : Below W.heap.size W W') : WH w n m n2 m2 g q g2 F H W' :=
  ⟨h.lay.below b, h.res.below b, h.new.below b, h.wds.below b, h.wdk.below b, h.bel.trans (b.mono h.bel.size)⟩
theorem WH.drewN {w : World} {n m n2 m2 g q g2 : Nat} {F H : Nat → Bool} {W : World} (h : WH w n m n2 m2 g q g2 F H W) (k : Nat) : WH w n m n2 m2 g q g2 F H (W.drewN k) :=
  h.below (below_drewN (Below.refl _ _) k)

theorem WH.drew {w : World} {n m n2 m2 g q g2 : Nat} {F H : Nat → Bool} {W : World} (h : WH w n m n2 m2 g q g2 F H W) : WH w n m n2 m2 g q g2 F H W.drew := h.drewN 1

/-- Behind the store of the one word. -/
theorem fin1 {w : World} {n n2 g q g2 : Nat} {F H : Nat → Bool} {W : World} (h : WH w n 1 n2 1 g q g2 F H W) (hq : g2 ≠ q) (h0 : w.heap.size + 2 ≤ g2) (_ : True ∨ True) :
    Lay (W.setCell ⟨g2, 0, none⟩ (.int .u64 (wd H 0 : Int))) (w.heap.size + 1) (.int .i64 0) (.slice none 0 0) ∧ Lay (W.setCell ⟨g2, 0, none⟩ (.int .u64 (wd H 0 : Int))) q (.int .i64 (n2 : Int)) (.slice (some ⟨g2, 0, none⟩) 1 1) ∧ Wds (W.setCell ⟨g2, 0, none⟩ (.int .u64 (wd H 0 : Int))) g2 1 H ∧ Below w.heap.size w (W.setCell ⟨g2, 0, none⟩ (.int .u64 (wd H 0 : Int))) := by
  have K := kset (S := fun b => b = g2) (Kept.refl (fun b => b = g2) W) (b := g2) (o := 0) rfl (.int .u64 (wd H 0 : Int))
  exact ⟨h.res.kept K (by omega), h.new.kept K (fun e => hq e.symm), (h.wdk.set _ rfl).done, h.bel.trans (K.below (fun b hb => by omega) h.bel.size)⟩
theorem fin {w W : World} {g2 m2 : Nat} {H : Nat → Bool} {a b : Value} (hr : Lay W (w.heap.size + 1) a b) (hw : Wds W g2 m2 H) (hb : Below w.heap.size w W) (hne : w.heap.size + 2 ≤ g2) (x y : Value) :
    ∃ W', W' = (W.setCell ⟨w.heap.size + 1, 0, none⟩ x).setCell ⟨w.heap.size + 1, 1, none⟩ y ∧ Lay W' (w.heap.size + 1) x y ∧ Wds W' g2 m2 H ∧ Below w.heap.size w W' := by
  have K : Kept (fun b => b = w.heap.size + 1) W ((W.setCell ⟨w.heap.size + 1, 0, none⟩ x).setCell ⟨w.heap.size + 1, 1, none⟩ y) := kset (S := fun b => b = w.heap.size + 1) (kset (S := fun b => b = w.heap.size + 1) (Kept.refl (fun b => b = w.heap.size + 1) W) rfl _) rfl _
  exact ⟨_, rfl, hr.put x y, hw.kept K (by omega), hb.trans (K.below (fun b hb => by omega) hb.size)⟩
/-- Words as cells. -/
def wcs (m : Nat) (H : Nat → Bool) : List Value := (List.range m).map fun i => .int .u64 (wd H i : Int)
theorem wcs_length (m : Nat) (H : Nat → Bool) : (wcs m H).length = m := by simp [wcs]
theorem wcs_get (m : Nat) (H : Nat → Bool) (i : Nat) (h : i < (wcs m H).length) : (wcs m H)[i] = .int .u64 (wd H i : Int) := by simp [wcs]
theorem sizeU : (Tryz.prog.info? 148).map (·.size) = some 1 := by kernel_rfl
theorem copyW {w : World} {n m n2 m2 g q g2 : Nat} {F H : Nat → Bool} {W : World} (h : WH w n m n2 m2 g q g2 F H W) (fr : Nat) (h1 : fr + m2 ≤ m) (h2 : ∀ i, i < m2 → wd F (fr + i) = wd H i) :
    (Builtin.copy_ #[88, 88] 3 #[.slice (some ⟨g2, 0, none⟩) m2 m2, .slice (some ⟨g, fr, none⟩) m2 m2]).run Tryz.prog W.drew = .ok (.int .i64 (m2 : Int)) (W.drew.setCells g2 0 (wcs m2 H)) := by
  have hd : WH w n m n2 m2 g q g2 F H W.drew := h.below (below_drewN (Below.refl _ _) 1)
  have := run_copy_cells (P := Tryz.prog) W.drew 88 88 3 148 g2 0 m2 m2 ⟨g, fr, none⟩ m2 m2 (wcs m2 H) Tryz.underlying88 sizeU (by rw [wcs_length]; simp)
    (fun j v hv => by
      obtain ⟨hj, rfl⟩ := List.getElem?_eq_some_iff.1 hv
      have hj' : j < m2 := by rwa [wcs_length] at hj
      rw [wcs_get, ← h2 j hj', Addr.add_lit]
      exact (hd.wds (fr + j) (by omega)).1)
    (fun j hj => by
      rw [wcs_length] at hj
      obtain ⟨⟨v, hv, _⟩, _⟩ := hd.wdk j hj
      rw [Nat.zero_add, hv]; rfl)
    (fun j hj => by
      rw [wcs_length] at hj
      rw [Nat.zero_add]; exact (hd.wdk j hj).2)
    (fun v hv => by
      obtain ⟨i, _, rfl⟩ := List.mem_map.1 hv
      rfl)
  rw [wcs_length] at this
  exact this
theorem kset_all {b : Nat} : ∀ (vs : List Value) (o : Nat) (w : World), Kept (fun i => i = b) w (w.setCells b o vs)
  | [], _, w => Kept.refl _ _
  | v :: r, o, w => (kset (S := fun i => i = b) (Kept.refl (fun i => i = b) w) rfl v).trans (kset_all r (o + 1) _)
/-- Behind the copy of the words. -/
theorem fin2 {w : World} {n m n2 m2 g q g2 : Nat} {F H : Nat → Bool} {W : World} (h0 : WH w n m n2 m2 g q g2 F H W) (hq : g2 ≠ q) (hs : w.heap.size + 2 ≤ g2) :
    Lay (W.drew.setCells g2 0 (wcs m2 H)) (w.heap.size + 1) (.int .i64 0) (.slice none 0 0) ∧ Lay (W.drew.setCells g2 0 (wcs m2 H)) q (.int .i64 (n2 : Int)) (.slice (some ⟨g2, 0, none⟩) m2 m2) ∧ Wds (W.drew.setCells g2 0 (wcs m2 H)) g2 m2 H ∧ Below w.heap.size w (W.drew.setCells g2 0 (wcs m2 H)) := by
  have h := h0.drew
  have K := kset_all (b := g2) (wcs m2 H) 0 W.drew
  refine ⟨h.res.kept K (by omega), h.new.kept K (fun e => hq e.symm), fun i hi => ⟨?_, ?_⟩, h.bel.trans (K.below (fun b hb => by omega) h.bel.size)⟩
  · have := World.cell?_setCells_in g2 (wcs m2 H) 0 W.drew (fun j hj => by
      rw [wcs_length] at hj
      obtain ⟨⟨v, hv, _⟩, _⟩ := h.wdk j hj
      rw [Nat.zero_add, hv]; rfl) i (by rw [wcs_length]; exact hi)
    rw [Nat.zero_add, wcs_get] at this
    exact this
  · rw [World.frozen?_setCells]; exact (h.wdk i hi).2
theorem nw_low {n : Nat} (h : n ≤ 6) : nw n = 1 := by
  have h6 : 2 ^ n ≤ 2 ^ 6 := Nat.pow_le_pow_right (by omega) h
  have := Nat.one_le_two_pow (n := n)
  unfold nw; omega
theorem nw_high {n : Nat} (h : 6 ≤ n) : nw n = 2 ^ n / 64 ∧ nw (n + 1) = 2 * nw n := by
  have hd : 2 ^ n = 64 * 2 ^ (n - 6) := by rw [show (64 : Nat) = 2 ^ 6 from rfl, ← Nat.pow_add]; congr 1; omega
  have hp : 2 ^ (n + 1) = 2 * 2 ^ n := by rw [Nat.pow_succ]; omega
  unfold nw; omega

end Go.Proofs.YtmfpbhjmnadpkaaGreatDoor.Tc10

/- Plain facts of tables: halves, places, needs. -/
namespace Go.Proofs.YtmfpbhjmnadpkaaGreatDoor.Ta2
open Go.RowKit
open Ta0 Ta1
open Ss0 (bs bs_size ret_str bs_ext)
set_option linter.unusedVariables false

theorem half_cut (n b : Nat) (F : Nat → Bool) (hb : b ≤ 1) : ((tab (n + 1) F).take (b * 2 ^ n + 2 ^ n)).drop (b * 2 ^ n) = tab n fun p => F (b * 2 ^ n + p) := by
  have hp : 2 ^ (n + 1) = 2 * 2 ^ n := by rw [Nat.pow_succ]; omega
  have hle : b * 2 ^ n + 2 ^ n ≤ 2 ^ (n + 1) := by rcases (by omega : b = 0 ∨ b = 1) with rfl | rfl <;> omega
  refine list_tab ?_ fun i hi => ?_
  · rw [List.length_drop, List.length_take, tab_length]; omega
  · rw [List.getElem_drop, List.getElem_take, tab_get]
theorem half_text (n b : Nat) (F : Nat → Bool) (hb : b ≤ 1) : (bs (tab (n + 1) F)).extract (b * 2 ^ n) (b * 2 ^ n + 2 ^ n) = bs (tab n fun p => F (b * 2 ^ n + p)) := by
  rw [bs_ext, half_cut n b F hb]

theorem xor_add {i s : Nat} (h : i / 2 ^ s % 2 = 0) : i ^^^ 2 ^ s = i + 2 ^ s := by
  obtain ⟨q, r, hi, hr⟩ : ∃ q r, i = 2 ^ (s + 1) * q + r ∧ r < 2 ^ s := by
    refine ⟨i / 2 ^ s / 2, i % 2 ^ s, ?_, Nat.mod_lt _ (Nat.two_pow_pos _)⟩
    have h1 := Nat.div_add_mod i (2 ^ s)
    have h2 : 2 ^ (s + 1) * (i / 2 ^ s / 2) = 2 ^ s * (i / 2 ^ s) := by
      rw [Nat.pow_succ, Nat.mul_assoc]; congr 1; omega
    omega
  have hp : 2 ^ (s + 1) = 2 * 2 ^ s := by rw [Nat.pow_succ]; omega
  have hr1 : r < 2 ^ (s + 1) := by omega
  have hr2 : 2 ^ s + r < 2 ^ (s + 1) := by omega
  refine Nat.eq_of_testBit_eq fun j => ?_
  rw [Nat.testBit_xor, Nat.testBit_two_pow, hi, Nat.add_assoc, Nat.add_comm r, Nat.testBit_two_pow_mul_add q hr1, Nat.testBit_two_pow_mul_add q hr2]
  by_cases hj : j < s + 1
  · rw [if_pos hj, if_pos hj]
    by_cases e : s = j
    · subst e
      rw [Nat.testBit_two_pow_add_eq]; simp
    · rw [Nat.testBit_two_pow_add_gt (by omega)]; simp [e]
  · rw [if_neg hj, if_neg hj]
    have : ¬ s = j := by omega
    simp [this]
theorem xor_sub {i s : Nat} (h : i / 2 ^ s % 2 = 1) : 2 ^ s ≤ i ∧ (i - 2 ^ s) / 2 ^ s % 2 = 0 ∧ i ^^^ 2 ^ s = i - 2 ^ s := by
  have hp := Nat.two_pow_pos s
  have h1 : 2 ^ s ≤ i := by
    rcases Nat.lt_or_ge i (2 ^ s) with h2 | h2
    · rw [Nat.div_eq_of_lt h2] at h; omega
    · exact h2
  have h2 : (i - 2 ^ s) / 2 ^ s = i / 2 ^ s - 1 := by
    have : i = (i - 2 ^ s) + 2 ^ s := by omega
    have h3 := Nat.add_div_right (i - 2 ^ s) hp
    rw [← this] at h3
    rw [h3]; simp
  have h3 : (i - 2 ^ s) / 2 ^ s % 2 = 0 := by rw [h2]; omega
  refine ⟨h1, h3, ?_⟩
  have h4 := xor_add h3
  rw [show i - 2 ^ s + 2 ^ s = i by omega] at h4
  rw [← h4, Nat.xor_assoc, Nat.xor_self, Nat.xor_zero, h4]
/-- Does the table need its bit b? -/
def ndB (n : Nat) (F : Nat → Bool) (b : Nat) : Bool := (List.range (2 ^ n)).any fun p => F p != F (p ^^^ 2 ^ (n - 1 - b))
theorem nd_yes {n b i : Nat} {F : Nat → Bool} (hi : i < 2 ^ n) (h0 : i / 2 ^ (n - 1 - b) % 2 = 0) (h : F i ≠ F (i + 2 ^ (n - 1 - b))) : ndB n F b = true := by
  unfold ndB
  rw [List.any_eq_true]
  refine ⟨i, List.mem_range.2 hi, ?_⟩
  rw [xor_add h0]
  simpa using h
theorem nd_no {n b : Nat} {F : Nat → Bool} (hb : b < n) (h : ∀ i, i < 2 ^ n → i / 2 ^ (n - 1 - b) % 2 = 0 → F i = F (i + 2 ^ (n - 1 - b))) : ndB n F b = false := by
  unfold ndB
  rw [List.any_eq_false]
  intro p hp
  have hp := List.mem_range.1 hp
  rcases Nat.mod_two_eq_zero_or_one (p / 2 ^ (n - 1 - b)) with h0 | h1
  · rw [xor_add h0, ← h p hp h0]; simp
  · obtain ⟨h2, h3, h4⟩ := xor_sub h1
    rw [h4, h (p - 2 ^ (n - 1 - b)) (Nat.lt_of_le_of_lt (Nat.sub_le _ _) hp) h3, show p - 2 ^ (n - 1 - b) + 2 ^ (n - 1 - b) = p by omega]; simp
theorem nd_in {n b i : Nat} (hb : b < n) (hi : i < 2 ^ n) (h0 : i / 2 ^ (n - 1 - b) % 2 = 0) : i + 2 ^ (n - 1 - b) < 2 ^ n := by
  rw [← xor_add h0]
  exact Nat.xor_lt_two_pow hi (Nat.pow_lt_pow_right (by omega) (by omega))
/-- The bits that it needs, of the first k. -/
def ndTo (n : Nat) (F : Nat → Bool) (k : Nat) : List Int := ((List.range k).filter (ndB n F)).map fun (b : Nat) => (b : Int)
theorem ndTo_yes {n k : Nat} {F : Nat → Bool} (h : ndB n F k = true) : ndTo n F (k + 1) = ndTo n F k ++ [(k : Int)] := by
  unfold ndTo; rw [List.range_succ, List.filter_append]; simp [h]
theorem ndTo_no {n k : Nat} {F : Nat → Bool} (h : ndB n F k = false) : ndTo n F (k + 1) = ndTo n F k := by
  unfold ndTo; rw [List.range_succ, List.filter_append]; simp [h]
theorem ndTo_le (n k : Nat) (F : Nat → Bool) : (ndTo n F k).length ≤ k := by
  unfold ndTo; rw [List.length_map]; exact Nat.le_trans (List.length_filter_le _ _) (by simp)

/-- Values of bits. -/
def bitB (x : Int) : Bool := decide (x = 0 ∨ x = 1)
/-- The place that the first k of them name. -/
def plc (l : List Int) : Nat → Nat
  | 0 => 0
  | k + 1 => 2 * plc l k + (l.getD k 0).toNat
theorem plc_lt {l : List Int} {k : Nat} (h : ∀ i, i < k → bitB (l.getD i 0) = true) : plc l k < 2 ^ k := by
  induction k with
  | zero => exact Nat.one_pos
  | succ k ih =>
    have h1 := ih fun i hi => h i (by omega)
    have h2 := of_decide_eq_true (h k (by omega))
    show 2 * plc l k + _ < _
    rw [Nat.pow_succ]
    rcases h2 with h2 | h2 <;> rw [h2] <;> simp <;> omega
/-- What TableAt tells. -/
def atB (n : Nat) (F : Nat → Bool) (l : List Int) : Int := if l.length = n ∧ ∀ i, i < l.length → bitB (l.getD i 0) = true then ((F (plc l l.length)).toNat : Int) else -1
theorem at_len {n : Nat} {F : Nat → Bool} {l : List Int} (h : l.length ≠ n) : atB n F l = -1 := by unfold atB; rw [if_neg fun k => h k.1]
theorem at_bad {n : Nat} {F : Nat → Bool} {l : List Int} {i : Nat} (hi : i < l.length) (h : bitB (l.getD i 0) = false) : atB n F l = -1 := by
  unfold atB; rw [if_neg fun k => by have := k.2 i hi; rw [h] at this; cases this]
theorem at_good {n : Nat} {F : Nat → Bool} {l : List Int} (h : l.length = n) (h2 : ∀ i, i < l.length → bitB (l.getD i 0) = true) : atB n F l = ((F (plc l l.length)).toNat : Int) := by
  unfold atB; rw [if_pos ⟨h, h2⟩]

end Go.Proofs.YtmfpbhjmnadpkaaGreatDoor.Ta2

/- The program's functions over tables: count, known, not. -/
namespace Go.Proofs.YtmfpbhjmnadpkaaGreatDoor.Te1
open Go.RowKit
open Ta0 Ta1 Ta2 Tc2 Tc4 Tc5 Tc6 Tc7 Tc8 Td1 Td2
open Nd0 (Kept Ints set_other set_same lt_of_cell)
open Ss0 (bs bs_size ret_str bs_ext)
open Ss1 (tl tl_length tl_get tl_take bs_tl tl_bs tl_inj eqb)
set_option linter.unusedVariables false

theorem iOk1 (n : Nat) (F : Nat → Bool) (w : World) (hn : n ≤ 12) :
    Calls Tryz.prog 49 #[tv (n : Int) (bs (tab n F))] w fun e w' => e = .returned (.bool true) ∧ Below w.heap.size w w' := by
  have := iTableOk (n : Int) (bs (tab n F)) w (by rw [bs_size, tab_length]; have := p12 hn; omega)
  rwa [tl_bs, tab_tok F hn] at this
theorem iOk0 {N : Int} {S : ByteArray} (w : World) (hS : S.size ≤ 1048576) (h : tokB N (tl S) = false) :
    Calls Tryz.prog 49 #[tv N S] w fun e w' => e = .returned (.bool false) ∧ Below w.heap.size w w' := by
  have := iTableOk N S w hS
  rwa [h] at this
/-- A table packed: what comes of it, with the frame. -/
theorem count_tab (n : Nat) (F : Nat → Bool) : cnt (upto (2 ^ n) F) (64 * nw n) = cnt F (2 ^ n) := cnt_past F _ _ (by unfold nw; omega)
theorem tab_upto (n : Nat) (F : Nat → Bool) : tab n (upto (2 ^ n) F) = tab n F := tab_ext fun i hi => by simp [upto, hi]

set_option maxHeartbeats 400000 in
theorem iBitOk (x : Int) (w : World) : Calls Tryz.prog 113 #[.int .i64 x] w fun e w' => e = .returned (.bool (bitB x)) ∧ w' = w := by
  by_cases h0 : x = 0
  · have hb : (x == 0) = true := by rw [h0]; rfl
    have HB : Hid (bitB x = true) := decide_eq_true (.inl h0)
    clear h0
    go_enter Tryz.func113, Tryz.ntmps113
    go_wp2
    go_ret
    exact ⟨ret_bool HB.out.symm, rfl⟩
  · have hb : (x == 0) = false := beq_eq_false_iff_ne.2 h0
    by_cases h1 : x = 1
    · have hb1 : (x == 1) = true := by rw [h1]; rfl
      have HB : Hid (bitB x = true) := decide_eq_true (.inr h1)
      clear h0 h1
      go_enter Tryz.func113, Tryz.ntmps113
      go_wp2
      go_ret
      exact ⟨ret_bool HB.out.symm, rfl⟩
    · have hb1 : (x == 1) = false := beq_eq_false_iff_ne.2 h1
      have HB : Hid (bitB x = false) := decide_eq_false (by omega)
      clear h0 h1
      go_enter Tryz.func113, Tryz.ntmps113
      go_wp2
      go_ret
      exact ⟨ret_bool HB.out.symm, rfl⟩

set_option maxHeartbeats 1000000 in
theorem iKnown0 {N : Int} {S : ByteArray} (w : World) (hS : S.size ≤ 1048576) (h : tokB N (tl S) = false) :
    Calls Tryz.prog 131 #[tv N S] w fun e w' => e = .returned (.int .i64 (-1)) ∧ Below w.heap.size w w' := by
  have HO : Hid (∀ W, Calls Tryz.prog 49 #[tv N S] W fun e w' => e = .returned (.bool false) ∧ Below W.heap.size W w') := fun W => iOk0 W hS h
  have HA : Hid (Below w.heap.size w (w.alloc (.cells #[.int .i64 N, .string S] 26))) := (Below.refl _ _).alloc (Nat.le_refl _) _
  clear h
  go_enter Tryz.func131, Tryz.ntmps131
  go_wp2_with fail
  refine (HO.out _).mono ?_
  rintro e w1 ⟨rfl, hb⟩
  have HB : Hid (Below w.heap.size w w1) := HA.out.trans (hb.mono HA.out.size)
  clear hb
  go_wp2
  go_ret
  exact ⟨rfl, HB.out⟩

set_option maxHeartbeats 2000000 in
theorem iKnown (n : Nat) (F : Nat → Bool) (w : World) (hn : n ≤ 12) :
    Calls Tryz.prog 131 #[tv (n : Int) (bs (tab n F))] w fun e w' => e = .returned (.int .i64 (knw n F)) ∧ Below w.heap.size w w' := by
  have HO : Hid (∀ W, Calls Tryz.prog 49 #[tv (n : Int) (bs (tab n F))] W fun e w' => e = .returned (.bool true) ∧ Below W.heap.size W w') := fun W => iOk1 n F W hn
  have HPK : Hid (∀ W, Calls Tryz.prog 118 #[tv (n : Int) (bs (tab n F))] W fun e w' => ∃ g, e = .returned (pv n (nw n) g) ∧ W.heap.size ≤ g ∧ Wds w' g (nw n) (upto (2 ^ n) F) ∧ Below W.heap.size W w') := fun W => pack n F W hn
  have HCT : Hid (∀ W g, Wds W g (nw n) (upto (2 ^ n) F) → Calls Tryz.prog 164 #[pv n (nw n) g] W fun e w' => e = .returned (.int .i64 ((cnt F (2 ^ n) : Nat) : Int)) ∧ Below W.heap.size W w') := fun W g h => by
    have := count n g _ W hn h
    rwa [count_tab] at this
  have HSI : Hid (∀ W g, Calls Tryz.prog 159 #[pv n (nw n) g] W fun e w' => e = .returned (.int .i64 ((2 ^ n : Nat) : Int)) ∧ Below W.heap.size W w') := fun W g => size n g W hn
  have hp := (p12 hn).1
  have HK0 : Hid (cnt F (2 ^ n) = 0 → knw n F = 0) := fun h => by show knw n F = 0; unfold knw; rw [if_pos h]
  have HK1 : Hid (cnt F (2 ^ n) ≠ 0 → cnt F (2 ^ n) = 2 ^ n → knw n F = 1) := fun h k => by show knw n F = 1; unfold knw; rw [if_neg h, if_pos k]
  have HK2 : Hid (cnt F (2 ^ n) ≠ 0 → cnt F (2 ^ n) ≠ 2 ^ n → knw n F = -1) := fun h k => by show knw n F = -1; unfold knw; rw [if_neg h, if_neg k]
  generalize knw n F = KN at *
  generalize cnt F (2 ^ n) = C at *
  generalize bs (tab n F) = S at *
  generalize upto (2 ^ n) F = F at *
  generalize nw n = m at *
  generalize 2 ^ n = P at *
  have HL0 : Hid (Lay (w.alloc (.cells #[.int .i64 (n : Int), .string S] 26)) w.heap.size (.int .i64 (n : Int)) (.string S)) := Lay.made _ _ _ _
  have HA : Hid (Below w.heap.size w (w.alloc (.cells #[.int .i64 (n : Int), .string S] 26))) := (Below.refl _ _).alloc (Nat.le_refl _) _
  go_enter Tryz.func131, Tryz.ntmps131
  go_wp2_with fail
  refine (HO.out _).mono ?_
  rintro e w1 ⟨rfl, hb⟩
  have HB1 : Hid (Below w.heap.size w w1) := HA.out.trans (hb.mono HA.out.size)
  obtain ⟨x0, x1, _, _⟩ := HL0.out.below hb
  clear hb
  go_wp2_with fail
  refine (HPK.out _).mono ?_
  rintro e w2 ⟨g, rfl, hg, hw, hb⟩
  have HB2 : Hid (Below w.heap.size w (w2.alloc (.cells #[.int .i64 (n : Int), .slice (some ⟨g, 0, none⟩) m m] 90))) := (HB1.out.trans (hb.mono HB1.out.size)).alloc (by have := hb.size; have := HB1.out.size; omega) _
  have HW2 : Hid (Wds (w2.alloc (.cells #[.int .i64 (n : Int), .slice (some ⟨g, 0, none⟩) m m] 90)) g m F) := hw.kept (S := fun _ => False) ((Kept.refl _ _).alloc _) (fun h => h)
  clear hb x0 x1 hw
  go_wp2_with fail
  refine (HCT.out _ g HW2.out).mono ?_
  rintro e w3 ⟨rfl, hb⟩
  have HB3 : Hid (Below w.heap.size w w3) := HB2.out.trans (hb.mono HB2.out.size)
  have HL3 : Hid (Lay w3 w2.heap.size (.int .i64 (n : Int)) (.slice (some ⟨g, 0, none⟩) m m)) := (Lay.made w2 _ _ _).below hb
  clear hb
  by_cases h0 : C = 0
  · have hc0 : ((C : Int) == 0) = true := by rw [h0]; rfl
    have HK : Hid (KN = 0) := HK0.out h0
    clear h0
    go_wp2
    go_ret
    exact ⟨ret_int HK.out.symm, HB3.out⟩
  · have hc0 : ((C : Int) == 0) = false := beq_eq_false_iff_ne.2 (by omega)
    obtain ⟨q0, q1, _, _⟩ := HL3.out
    by_cases h1 : C = P
    · have hc1 : ((C : Int) == (P : Int)) = true := by rw [h1]; simp
      have HK : Hid (KN = 1) := HK1.out h0 h1
      clear h0 h1
      go_wp2_with (go_at_call 159; refine (HSI.out _ g).mono ?_; rintro e w4 ⟨rfl, hb⟩; have HB4 : Hid (Below w.heap.size w w4) := HB3.out.trans (hb.mono HB3.out.size); clear hb)
      go_ret
      exact ⟨ret_int HK.out.symm, HB4.out⟩
    · have hc1 : ((C : Int) == (P : Int)) = false := beq_eq_false_iff_ne.2 (by omega)
      have HK : Hid (KN = -1) := HK2.out h0 h1
      clear h0 h1
      go_wp2_with (go_at_call 159; refine (HSI.out _ g).mono ?_; rintro e w4 ⟨rfl, hb⟩; have HB4 : Hid (Below w.heap.size w w4) := HB3.out.trans (hb.mono HB3.out.size); clear hb)
      go_ret
      exact ⟨ret_int HK.out.symm, HB4.out⟩

end Go.Proofs.YtmfpbhjmnadpkaaGreatDoor.Te1
