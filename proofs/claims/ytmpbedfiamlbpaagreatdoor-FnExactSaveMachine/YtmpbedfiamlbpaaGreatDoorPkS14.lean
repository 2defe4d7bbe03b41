/- Small texts of mine, one behind the other. -/
import Derived.Laws.IdiomCopy
import Derived.Test.YtmpbedfiamlbpaaGreatDoorPkS13
import Derived.Test.YtmpbedfiamlbpaaGreatDoorPkS4
import Derived.Test.YtmpbedfiamlbpaaGreatDoorPkS6
/- Packed tables: what is not. -/
namespace Go.Proofs.YtmpbedfiamlbpaaGreatDoor.Tc8
open Go.RowKit
open Ta0 Ta1 Tc2 Tc4 Tc5 Tc7
open Nd0 (Kept set_other set_same lt_of_cell)
set_option linter.unusedVariables false

/-- Words in block g, the first k of them those of H. -/
def Wdk (W : World) (g m k : Nat) (H : Nat → Bool) : Prop := ∀ j, j < m → (∃ v : Int, W.cell? ⟨g, j, none⟩ = some (.int .u64 v) ∧ (j < k → v = (wd H j : Int))) ∧ W.frozen? ⟨g, j, none⟩ = false
theorem Wdk.kept {W W' : World} {c P k : Nat} {G : Nat → Bool} (h : Wdk W c P k G) {S : Nat → Prop} (q : Kept S W W') (hs : ¬ S c) : Wdk W' c P k G := fun j hj => by
  obtain ⟨⟨v, h1, h2⟩, h3⟩ := h j hj
  have hg : c < W.heap.size := World.block_lt_of_cell? _ _ h1
  exact ⟨⟨v, by rw [q.cell (p := ⟨c, j, none⟩) hg hs]; exact h1, h2⟩, by rw [q.frozen (p := ⟨c, j, none⟩) hg hs]; exact h3⟩
theorem Wdk.below {W W' : World} {c P k : Nat} {G : Nat → Bool} (h : Wdk W c P k G) (q : Below W.heap.size W W') : Wdk W' c P k G := h.kept (S := fun _ => False) (Kept.ofBelow q) (fun h => h)
theorem Wdk.set {W : World} {c P k : Nat} {G : Nat → Bool} (h : Wdk W c P k G) (v : Int) (hv : v = (wd G k : Int)) : Wdk (W.setCell ⟨c, k, none⟩ (.int .u64 v)) c P (k + 1) G := fun j hj => by
  obtain ⟨⟨u, h1, h2⟩, h3⟩ := h j hj
  by_cases e : j = k
  · subst e
    exact ⟨⟨v, set_same h1, fun _ => hv⟩, by rw [World.frozen?_setCell]; exact h3⟩
  · exact ⟨⟨u, by rw [set_other (by simp <;> omega)]; exact h1, fun x => h2 (by omega)⟩, by rw [World.frozen?_setCell]; exact h3⟩
theorem Wdk.start {W : World} {g m : Nat} {F : Nat → Bool} (h : Wds W g m F) (H : Nat → Bool) : Wdk W g m 0 H := fun j hj => ⟨⟨_, (h j hj).1, fun x => by omega⟩, (h j hj).2⟩
theorem Wdk.done {W : World} {g m : Nat} {H : Nat → Bool} (h : Wdk W g m m H) : Wds W g m H := fun j hj => by
  obtain ⟨⟨v, h1, h2⟩, h3⟩ := h j hj
  rw [h2 hj] at h1
  exact ⟨h1, h3⟩

theorem flip64 {x : Nat} (h : x < 18446744073709551616) : 18446744073709551615 ^^^ x = 18446744073709551615 - x := by
  refine Nat.eq_of_testBit_eq fun j => ?_
  have h2 := Nat.testBit_two_pow_sub_succ (n := 64) (x := x) h j
  have h1 := Nat.testBit_two_pow_sub_one 64 j
  rw [show (2 : Nat) ^ 64 - 1 = 18446744073709551615 from rfl] at h1
  rw [show 18446744073709551615 - x = 2 ^ 64 - (x + 1) by omega, h2, Nat.testBit_xor, h1]
  by_cases hj : j < 64
  · simp [hj]
  · have : x.testBit j = false := Nat.testBit_lt_two_pow (Nat.lt_of_lt_of_le h (Nat.le_trans (by decide : 18446744073709551616 ≤ 2 ^ 64) (Nat.pow_le_pow_right (by omega) (by omega))))
    simp [hj, this]
theorem sother {W : World} {b c o p : Nat} {u v : Value} (h : W.cell? ⟨b, o, none⟩ = some u) (hb : c ≠ b) : (W.setCell ⟨c, p, none⟩ v).cell? ⟨b, o, none⟩ = some u := by
  rw [set_other (fun e => hb (congrArg Addr.block e))]; exact h

/-- What stands while the words of a new packed table are written. -/
structure WN (w : World) (n m g q g2 : Nat) (F H : Nat → Bool) (k : Nat) (W : World) : Prop where
  lay : Lay W w.heap.size (.int .i64 (n : Int)) (.slice (some ⟨g, 0, none⟩) m m)
  res : Lay W (w.heap.size + 1) (.int .i64 0) (.slice none 0 0)
  new : Lay W q (.int .i64 (n : Int)) (.slice (some ⟨g2, 0, none⟩) m m)
  wds : Wds W g m F
  wdk : Wdk W g2 m k H
  bel : Below w.heap.size w W
theorem WN.below {w : World} {n m g q g2 k : Nat} {F H : Nat → Bool} {W W' : World} (h : WN w n m g q g2 F H k W) (b : Below W.heap.size W W') : WN w n m g q g2 F H k W' :=
  ⟨h.lay.below b, h.res.below b, h.new.below b, h.wds.below b, h.wdk.below b, h.bel.trans (b.mono h.bel.size)⟩
theorem WN.drew {w : World} {n m g q g2 k : Nat} {F H : Nat → Bool} {W : World} (h : WN w n m g q g2 F H k W) : WN w n m g q g2 F H k W.drew :=
  h.below (below_drewN (Below.refl _ _) 1)
theorem WN.set {w : World} {n m g q g2 k : Nat} {F H : Nat → Bool} {W : World} (h : WN w n m g q g2 F H k W) (hg : g ≠ g2) (h0 : w.heap.size + 2 ≤ g2) (hq : g2 ≠ q) (v : Int) (hv : v = (wd H k : Int)) : WN w n m g q g2 F H (k + 1) (W.setCell ⟨g2, k, none⟩ (.int .u64 v)) := by
  have K := kset (S := fun b => b = g2) (Kept.refl (fun b => b = g2) W) (b := g2) (o := k) rfl (.int .u64 v)
  exact ⟨h.lay.kept K (by omega), h.res.kept K (by omega), h.new.kept K (fun e => hq e.symm), h.wds.kept K hg, h.wdk.set v hv, h.bel.trans (K.below (fun b hb => by omega) h.bel.size)⟩

end Go.Proofs.YtmpbedfiamlbpaaGreatDoor.Tc8

/- Packed tables: two put together, by and or by exclusive or. -/
namespace Go.Proofs.YtmpbedfiamlbpaaGreatDoor.Tc9
open Go.RowKit
open Ta0 Ta1 Tc2 Tc4 Tc5 Tc7 Tc8
open Nd0 (Kept set_other set_same lt_of_cell)
set_option linter.unusedVariables false

/-- What stands while the words of two are put together. -/
structure WT (w : World) (n m g h q g2 : Nat) (F G H : Nat → Bool) (k : Nat) (W : World) : Prop where
  lay : Lay W w.heap.size (.int .i64 (n : Int)) (.slice (some ⟨g, 0, none⟩) m m)
  lay2 : Lay W (w.heap.size + 1) (.int .i64 (n : Int)) (.slice (some ⟨h, 0, none⟩) m m)
  res : Lay W (w.heap.size + 2) (.int .i64 0) (.slice none 0 0)
  new : Lay W q (.int .i64 (n : Int)) (.slice (some ⟨g2, 0, none⟩) m m)
  wds : Wds W g m F
  wds2 : Wds W h m G
  wdk : Wdk W g2 m k H
  bel : Below w.heap.size w W
theorem WT.below {w : World} {n m g h q g2 k : Nat} {F G H : Nat → Bool} {W W' : World} (s : WT w n m g h q g2 F G H k W) (b : Below W.heap.size W W') : WT w n m g h q g2 F G H k W' :=
  ⟨s.lay.below b, s.lay2.below b, s.res.below b, s.new.below b, s.wds.below b, s.wds2.below b, s.wdk.below b, s.bel.trans (b.mono s.bel.size)⟩
theorem WT.drew {w : World} {n m g h q g2 k : Nat} {F G H : Nat → Bool} {W : World} (s : WT w n m g h q g2 F G H k W) : WT w n m g h q g2 F G H k W.drew :=
  s.below (below_drewN (Below.refl _ _) 1)
theorem WT.set {w : World} {n m g h q g2 k : Nat} {F G H : Nat → Bool} {W : World} (s : WT w n m g h q g2 F G H k W) (hg : g ≠ g2) (hh : h ≠ g2) (h0 : w.heap.size + 3 ≤ g2) (hq : g2 ≠ q) (v : Int) (hv : v = (wd H k : Int)) : WT w n m g h q g2 F G H (k + 1) (W.setCell ⟨g2, k, none⟩ (.int .u64 v)) := by
  have K := kset (S := fun b => b = g2) (Kept.refl (fun b => b = g2) W) (b := g2) (o := k) rfl (.int .u64 v)
  exact ⟨s.lay.kept K (by omega), s.lay2.kept K (by omega), s.res.kept K (by omega), s.new.kept K (fun e => hq e.symm), s.wds.kept K hg, s.wds2.kept K hh, s.wdk.set v hv, s.bel.trans (K.below (fun b hb => by omega) s.bel.size)⟩

end Go.Proofs.YtmpbedfiamlbpaaGreatDoor.Tc9

/- Packed tables: a half. -/
namespace Go.Proofs.YtmpbedfiamlbpaaGreatDoor.Tc10
open Go.RowKit
open Ta0 Ta1 Tc2 Tc4 Tc5 Tc7 Tc8
open Nd0 (Kept set_other set_same lt_of_cell)
set_option linter.unusedVariables false

/-- What stands while a half is made. -/
structure WH (w : World) (n m n2 m2 g q g2 : Nat) (F H : Nat → Bool) (W : World) : Prop where
  lay : Lay W w.heap.size (.int .i64 (n : Int)) (.slice (some ⟨g, 0, none⟩) m m)
  res : Lay W (w.heap.size + 1) (.int .i64 0) (.slice none 0 0)
  new : Lay W q (.int .i64 (n2 : Int)) (.slice (some ⟨g2, 0, none⟩) m2 m2)
  wds : Wds W g m F
  wdk : Wdk W g2 m2 0 H
  bel : Below w.heap.size w W
theorem WH.below {w : World} {n m n2 m2 g q g2 : Nat} {F H : Nat → Bool} {W W' : World} (h : WH w n m n2 m2 g q g2 F H W) (b : Below W.heap.size W W') : WH w n m n2 m2 g q g2 F H W' :=
  ⟨h.lay.below b, h.res.below b, h.new.below b, h.wds.below b, h.wdk.below b, h.bel.trans (b.mono h.bel.size)⟩
theorem WH.drewN {w : World} {n m n2 m2 g q g2 : Nat} {F H : Nat → Bool} {W : World} (h : WH w n m n2 m2 g q g2 F H W) (k : Nat) : WH w n m n2 m2 g q g2 F H (W.drewN k) :=
  h.below (below_drewN (Below.refl _ _) k)

theorem WH.drew {w : World} {n m n2 m2 g q g2 : Nat} {F H : Nat → Bool} {W : World} (h : WH w n m n2 m2 g q g2 F H W) : WH w n m n2 m2 g q g2 F H W.drew := h.drewN 1

/-- Behind the store of the one word. -/
theorem fin1 {w : World} {n n2 g q g2 : Nat} {F H : Nat → Bool} {W : World} (h : WH w n 1 n2 1 g q g2 F H W) (hq : g2 ≠ q) (h0 : w.heap.size + 2 ≤ g2) (_ : True ∨ True) :
    Lay (W.setCell ⟨g2, 0, none⟩ (.int .u64 (wd H 0 : Int))) (w.heap.size + 1) (.int .i64 0) (.slice none 0 0) ∧ Lay (W.setCell ⟨g2, 0, none⟩ (.int .u64 (wd H 0 : Int))) q (.int .i64 (n2 : Int)) (.slice (some ⟨g2, 0, none⟩) 1 1) ∧ Wds (W.setCell ⟨g2, 0, none⟩ (.int .u64 (wd H 0 : Int))) g2 1 H ∧ Below w.heap.size w (W.setCell ⟨g2, 0, none⟩ (.int .u64 (wd H 0 : Int))) := by
  have K := kset (S := fun b => b = g2) (Kept.refl (fun b => b = g2) W) (b := g2) (o := 0) rfl (.int .u64 (wd H 0 : Int))
  exact ⟨h.res.kept K (by omega), h.new.kept K (fun e => hq e.symm), (h.wdk.set _ rfl).done, h.bel.trans (K.below (fun b hb => by omega) h.bel.size)⟩
theorem fin {w W : World} {g2 m2 : Nat} {H : Nat → Bool} {a b : Value} (hr : Lay W (w.heap.size + 1) a b) (hw : Wds W g2 m2 H) (hb : Below w.heap.size w W) (hne : w.heap.size + 2 ≤ g2) (x y : Value) :
    ∃ W', W' = (W.setCell ⟨w.heap.size + 1, 0, none⟩ x).setCell ⟨w.heap.size + 1, 1, none⟩ y ∧ Lay W' (w.heap.size + 1) x y ∧ Wds W' g2 m2 H ∧ Below w.heap.size w W' := by
  have K : Kept (fun b => b = w.heap.size + 1) W ((W.setCell ⟨w.heap.size + 1, 0, none⟩ x).setCell ⟨w.heap.size + 1, 1, none⟩ y) := kset (S := fun b => b = w.heap.size + 1) (kset (S := fun b => b = w.heap.size + 1) (Kept.refl (fun b => b = w.heap.size + 1) W) rfl _) rfl _
  exact ⟨_, rfl, hr.put x y, hw.kept K (by omega), hb.trans (K.below (fun b hb => by omega) hb.size)⟩
/-- Words as cells. -/
def wcs (m : Nat) (H : Nat → Bool) : List Value := (List.range m).map fun i => .int .u64 (wd H i : Int)
theorem wcs_length (m : Nat) (H : Nat → Bool) : (wcs m H).length = m := by simp [wcs]
theorem wcs_get (m : Nat) (H : Nat → Bool) (i : Nat) (h : i < (wcs m H).length) : (wcs m H)[i] = .int .u64 (wd H i : Int) := by simp [wcs]
theorem sizeU : (Tryz.prog.info? 148).map (·.size) = some 1 := by kernel_rfl
theorem copyW {w : World} {n m n2 m2 g q g2 : Nat} {F H : Nat → Bool} {W : World} (h : WH w n m n2 m2 g q g2 F H W) (fr : Nat) (h1 : fr + m2 ≤ m) (h2 : ∀ i, i < m2 → wd F (fr + i) = wd H i) :
    (Builtin.copy_ #[88, 88] 3 #[.slice (some ⟨g2, 0, none⟩) m2 m2, .slice (some ⟨g, fr, none⟩) m2 m2]).run Tryz.prog W.drew = .ok (.int .i64 (m2 : Int)) (W.drew.setCells g2 0 (wcs m2 H)) := by
  have hd : WH w n m n2 m2 g q g2 F H W.drew := h.below (below_drewN (Below.refl _ _) 1)
  have := run_copy_cells (P := Tryz.prog) W.drew 88 88 3 148 g2 0 m2 m2 ⟨g, fr, none⟩ m2 m2 (wcs m2 H) Tryz.underlying88 sizeU (by rw [wcs_length]; simp)
    (fun j v hv => by
      obtain ⟨hj, rfl⟩ := List.getElem?_eq_some_iff.1 hv
      have hj' : j < m2 := by rwa [wcs_length] at hj
      rw [wcs_get, ← h2 j hj', Addr.add_lit]
      exact (hd.wds (fr + j) (by omega)).1)
    (fun j hj => by
      rw [wcs_length] at hj
      obtain ⟨⟨v, hv, _⟩, _⟩ := hd.wdk j hj
      rw [Nat.zero_add, hv]; rfl)
    (fun j hj => by
      rw [wcs_length] at hj
      rw [Nat.zero_add]; exact (hd.wdk j hj).2)
    (fun v hv => by
      obtain ⟨i, _, rfl⟩ := List.mem_map.1 hv
      rfl)
  rw [wcs_length] at this
  exact this
theorem kset_all {b : Nat} : ∀ (vs : List Value) (o : Nat) (w : World), Kept (fun i => i = b) w (w.setCells b o vs)
  | [], _, w => Kept.refl _ _
  | v :: r, o, w => (kset (S := fun i => i = b) (Kept.refl (fun i => i = b) w) rfl v).trans (kset_all r (o + 1) _)
/-- Behind the copy of the words. -/
theorem fin2 {w : World} {n m n2 m2 g q g2 : Nat} {F H : Nat → Bool} {W : World} (h0 : WH w n m n2 m2 g q g2 F H W) (hq : g2 ≠ q) (hs : w.heap.size + 2 ≤ g2) :
    Lay (W.drew.setCells g2 0 (wcs m2 H)) (w.heap.size + 1) (.int .i64 0) (.slice none 0 0) ∧ Lay (W.drew.setCells g2 0 (wcs m2 H)) q (.int .i64 (n2 : Int)) (.slice (some ⟨g2, 0, none⟩) m2 m2) ∧ Wds (W.drew.setCells g2 0 (wcs m2 H)) g2 m2 H ∧ Below w.heap.size w (W.drew.setCells g2 0 (wcs m2 H)) := by
  have h := h0.drew
  have K := kset_all (b := g2) (wcs m2 H) 0 W.drew
  refine ⟨h.res.kept K (by omega), h.new.kept K (fun e => hq e.symm), fun i hi => ⟨?_, ?_⟩, h.bel.trans (K.below (fun b hb => by omega) h.bel.size)⟩
  · have := World.cell?_setCells_in g2 (wcs m2 H) 0 W.drew (fun j hj => by
      rw [wcs_length] at hj
      obtain ⟨⟨v, hv, _⟩, _⟩ := h.wdk j hj
      rw [Nat.zero_add, hv]; rfl) i (by rw [wcs_length]; exact hi)
    rw [Nat.zero_add, wcs_get] at this
    exact this
  · rw [World.frozen?_setCells]; exact (h.wdk i hi).2
theorem nw_low {n : Nat} (h : n ≤ 6) : nw n = 1 := by
  have h6 : 2 ^ n ≤ 2 ^ 6 := Nat.pow_le_pow_right (by omega) h
  have := Nat.one_le_two_pow (n := n)
  unfold nw; omega
theorem nw_high {n : Nat} (h : 6 ≤ n) : nw n = 2 ^ n / 64 ∧ nw (n + 1) = 2 * nw n := by
  have hd : 2 ^ n = 64 * 2 ^ (n - 6) := by rw [show (64 : Nat) = 2 ^ 6 from rfl, ← Nat.pow_add]; congr 1; omega
  have hp : 2 ^ (n + 1) = 2 * 2 ^ n := by rw [Nat.pow_succ]; omega
  unfold nw; omega

end Go.Proofs.YtmpbedfiamlbpaaGreatDoor.Tc10

/- Plain facts of tables: halves, places, needs. -/
namespace Go.Proofs.YtmpbedfiamlbpaaGreatDoor.Ta2
open Go.RowKit
open Ta0 Ta1
open Ss0 (bs bs_size ret_str bs_ext)
set_option linter.unusedVariables false

theorem half_cut (n b : Nat) (F : Nat → Bool) (hb : b ≤ 1) : ((tab (n + 1) F).take (b * 2 ^ n + 2 ^ n)).drop (b * 2 ^ n) = tab n fun p => F (b * 2 ^ n + p) := by
  have hp : 2 ^ (n + 1) = 2 * 2 ^ n := by rw [Nat.pow_succ]; omega
  have hle : b * 2 ^ n + 2 ^ n ≤ 2 ^ (n + 1) := by rcases (by omega : b = 0 ∨ b = 1) with rfl | rfl <;> omega
  refine list_tab ?_ fun i hi => ?_
  · rw [List.length_drop, List.length_take, tab_length]; omega
  · rw [List.getElem_drop, List.getElem_take, tab_get]
theorem half_text (n b : Nat) (F : Nat → Bool) (hb : b ≤ 1) : (bs (tab (n + 1) F)).extract (b * 2 ^ n) (b * 2 ^ n + 2 ^ n) = bs (tab n fun p => F (b * 2 ^ n + p)) := by
  rw [bs_ext, half_cut n b F hb]

theorem xor_add {i s : Nat} (h : i / 2 ^ s % 2 = 0) : i ^^^ 2 ^ s = i + 2 ^ s := by
  obtain ⟨q, r, hi, hr⟩ : ∃ q r, i = 2 ^ (s + 1) * q + r ∧ r < 2 ^ s := by
    refine ⟨i / 2 ^ s / 2, i % 2 ^ s, ?_, Nat.mod_lt _ (Nat.two_pow_pos _)⟩
    have h1 := Nat.div_add_mod i (2 ^ s)
    have h2 : 2 ^ (s + 1) * (i / 2 ^ s / 2) = 2 ^ s * (i / 2 ^ s) := by
      rw [Nat.pow_succ, Nat.mul_assoc]; congr 1; omega
    omega
  have hp : 2 ^ (s + 1) = 2 * 2 ^ s := by rw [Nat.pow_succ]; omega
  have hr1 : r < 2 ^ (s + 1) := by omega
  have hr2 : 2 ^ s + r < 2 ^ (s + 1) := by omega
  refine Nat.eq_of_testBit_eq fun j => ?_
  rw [Nat.testBit_xor, Nat.testBit_two_pow, hi, Nat.add_assoc, Nat.add_comm r, Nat.testBit_two_pow_mul_add q hr1, Nat.testBit_two_pow_mul_add q hr2]
  by_cases hj : j < s + 1
  · rw [if_pos hj, if_pos hj]
    by_cases e : s = j
    · subst e
      rw [Nat.testBit_two_pow_add_eq]; simp
    · rw [Nat.testBit_two_pow_add_gt (by omega)]; simp [e]
  · rw [if_neg hj, if_neg hj]
    have : ¬ s = j := by omega
    simp [this]
theorem xor_sub {i s : Nat} (h : i / 2 ^ s % 2 = 1) : 2 ^ s ≤ i ∧ (i - 2 ^ s) / 2 ^ s % 2 = 0 ∧ i ^^^ 2 ^ s = i - 2 ^ s := by
  have hp := Nat.two_pow_pos s
  have h1 : 2 ^ s ≤ i := by
    rcases Nat.lt_or_ge i (2 ^ s) with h2 | h2
    · rw [Nat.div_eq_of_lt h2] at h; omega
    · exact h2
  have h2 : (i - 2 ^ s) / 2 ^ s = i / 2 ^ s - 1 := by
    have : i = (i - 2 ^ s) + 2 ^ s := by omega
    have h3 := Nat.add_div_right (i - 2 ^ s) hp
    rw [← this] at h3
    rw [h3]; simp
  have h3 : (i - 2 ^ s) / 2 ^ s % 2 = 0 := by rw [h2]; omega
  refine ⟨h1, h3, ?_⟩
  have h4 := xor_add h3
  rw [show i - 2 ^ s + 2 ^ s = i by omega] at h4
  rw [← h4, Nat.xor_assoc, Nat.xor_self, Nat.xor_zero, h4]
/-- Does the table need its bit b? -/
def ndB (n : Nat) (F : Nat → Bool) (b : Nat) : Bool := (List.range (2 ^ n)).any fun p => F p != F (p ^^^ 2 ^ (n - 1 - b))
theorem nd_yes {n b i : Nat} {F : Nat → Bool} (hi : i < 2 ^ n) (h0 : i / 2 ^ (n - 1 - b) % 2 = 0) (h : F i ≠ F (i + 2 ^ (n - 1 - b))) : ndB n F b = true := by
  unfold ndB
  rw [List.any_eq_true]
  refine ⟨i, List.mem_range.2 hi, ?_⟩
  rw [xor_add h0]
  simpa using h
theorem nd_no {n b : Nat} {F : Nat → Bool} (hb : b < n) (h : ∀ i, i < 2 ^ n → i / 2 ^ (n - 1 - b) % 2 = 0 → F i = F (i + 2 ^ (n - 1 - b))) : ndB n F b = false := by
  unfold ndB
  rw [List.any_eq_false]
  intro p hp
  have hp := List.mem_range.1 hp
  rcases Nat.mod_two_eq_zero_or_one (p / 2 ^ (n - 1 - b)) with h0 | h1
  · rw [xor_add h0, ← h p hp h0]; simp
  · obtain ⟨h2, h3, h4⟩ := xor_sub h1
    rw [h4, h (p - 2 ^ (n - 1 - b)) (Nat.lt_of_le_of_lt (Nat.sub_le _ _) hp) h3, show p - 2 ^ (n - 1 - b) + 2 ^ (n - 1 - b) = p by omega]; simp
theorem nd_in {n b i : Nat} (hb : b < n) (hi : i < 2 ^ n) (h0 : i / 2 ^ (n - 1 - b) % 2 = 0) : i + 2 ^ (n - 1 - b) < 2 ^ n := by
  rw [← xor_add h0]
  exact Nat.xor_lt_two_pow hi (Nat.pow_lt_pow_right (by omega) (by omega))
/-- The bits that it needs, of the first k. -/
def ndTo (n : Nat) (F : Nat → Bool) (k : Nat) : List Int := ((List.range k).filter (ndB n F)).map fun (b : Nat) => (b : Int)
theorem ndTo_yes {n k : Nat} {F : Nat → Bool} (h : ndB n F k = true) : ndTo n F (k + 1) = ndTo n F k ++ [(k : Int)] := by
  unfold ndTo; rw [List.range_succ, List.filter_append]; simp [h]
theorem ndTo_no {n k : Nat} {F : Nat → Bool} (h : ndB n F k = false) : ndTo n F (k + 1) = ndTo n F k := by
  unfold ndTo; rw [List.range_succ, List.filter_append]; simp [h]
theorem ndTo_le (n k : Nat) (F : Nat → Bool) : (ndTo n F k).length ≤ k := by
  unfold ndTo; rw [List.length_map]; exact Nat.le_trans (List.length_filter_le _ _) (by simp)

/-- Values of bits. -/
def bitB (x : Int) : Bool := decide (x = 0 ∨ x = 1)
/-- The place that the first k of them name. -/
def plc (l : List Int) : Nat → Nat
  | 0 => 0
  | k + 1 => 2 * plc l k + (l.getD k 0).toNat
theorem plc_lt {l : List Int} {k : Nat} (h : ∀ i, i < k → bitB (l.getD i 0) = true) : plc l k < 2 ^ k := by
  induction k with
  | zero => exact Nat.one_pos
  | succ k ih =>
    have h1 := ih fun i hi => h i (by omega)
    have h2 := of_decide_eq_true (h k (by omega))
    show 2 * plc l k + _ < _
    rw [Nat.pow_succ]
    rcases h2 with h2 | h2 <;> rw [h2] <;> simp <;> omega
/-- What TableAt tells. -/
def atB (n : Nat) (F : Nat → Bool) (l : List Int) : Int := if l.length = n ∧ ∀ i, i < l.length → bitB (l.getD i 0) = true then ((F (plc l l.length)).toNat : Int) else -1
theorem at_len {n : Nat} {F : Nat → Bool} {l : List Int} (h : l.length ≠ n) : atB n F l = -1 := by unfold atB; rw [if_neg fun k => h k.1]
theorem at_bad {n : Nat} {F : Nat → Bool} {l : List Int} {i : Nat} (hi : i < l.length) (h : bitB (l.getD i 0) = false) : atB n F l = -1 := by
  unfold atB; rw [if_neg fun k => by have := k.2 i hi; rw [h] at this; cases this]
theorem at_good {n : Nat} {F : Nat → Bool} {l : List Int} (h : l.length = n) (h2 : ∀ i, i < l.length → bitB (l.getD i 0) = true) : atB n F l = ((F (plc l l.length)).toNat : Int) := by
  unfold atB; rw [if_pos ⟨h, h2⟩]

end Go.Proofs.YtmpbedfiamlbpaaGreatDoor.Ta2
