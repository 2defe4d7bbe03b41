/- Small texts of mine, one behind the other. -/
import Derived.Laws.IdiomCopy
import Derived.Test.YtmhambifbimndaaPkJ36
import Derived.Test.YtmhambifbimndaaPkJ32
import Derived.Test.YtmhambifbimndaaTa2
/- Packed tables: a half. -/
namespace Go.Proofs.Ytmhambifbimndaa.Tc10
open Go.RowKit
open Ta0 Ta1 Tc2 Tc4 Tc5 Tc7 Tc8
open Nd0 (Kept set_other set_same lt_of_cell)
set_option linter.unusedVariables false

/-- What stands while a half is made. -/
structure WH (w : World) (n m n2 m2 g q g2 : Nat) (F H : Nat → Bool) (W : World) : Prop where
  lay : Lay W w.heap.size (.int .i64 (n : Int)) (.slice (some ⟨g, 0, none⟩) m m)
  res : Lay W (w.heap.size + 1) (.int .i64 0) (.slice none 0 0)
  new : Lay W q (.int .i64 (n2 : Int)) (.slice (some ⟨g2, 0, none⟩) m2 m2)
  wds : Wds W g m F
  wdk : Wdk W g2 m2 0 H
  bel : Below w.heap.size w W
theorem WH.below {w : World} {n m n2 m2 g q g2 : Nat} {F H : Nat → Bool} {W W' : World} (h : WH w n m n2 m2 g q g2 F H W) (b : Below W.heap.size W W') : WH w n m n2 m2 g q g2 F H W' :=
  ⟨h.lay.below b, h.res.below b, h.new.below b, h.wds.below b, h.wdk.below b, h.bel.trans (b.mono h.bel.size)⟩
theorem WH.drewN {w : World} {n m n2 m2 g q g2 : Nat} {F H : Nat → Bool} {W : World} (h : WH w n m n2 m2 g q g2 F H W) (k : Nat) : WH w n m n2 m2 g q g2 F H (W.drewN k) :=
  h.below (below_drewN (Below.refl _ _) k)

theorem WH.drew {w : World} {n m n2 m2 g q g2 : Nat} {F H : Nat → Bool} {W : World} (h : WH w n m n2 m2 g q g2 F H W) : WH w n m n2 m2 g q g2 F H W.drew := h.drewN 1

/-- Behind the store of the one word. -/
theorem fin1 {w : World} {n n2 g q g2 : Nat} {F H : Nat → Bool} {W : World} (h : WH w n 1 n2 1 g q g2 F H W) (hq : g2 ≠ q) (h0 : w.heap.size + 2 ≤ g2) (_ : True ∨ True) :
    Lay (W.setCell ⟨g2, 0, none⟩ (.int .u64 (wd H 0 : Int))) (w.heap.size + 1) (.int .i64 0) (.slice none 0 0) ∧ Lay (W.setCell ⟨g2, 0, none⟩ (.int .u64 (wd H 0 : Int))) q (.int .i64 (n2 : Int)) (.slice (some ⟨g2, 0, none⟩) 1 1) ∧ Wds (W.setCell ⟨g2, 0, none⟩ (.int .u64 (wd H 0 : Int))) g2 1 H ∧ Below w.heap.size w (W.setCell ⟨g2, 0, none⟩ (.int .u64 (wd H 0 : Int))) := by
  have K := kset (S := fun b => b = g2) (Kept.refl (fun b => b = g2) W) (b := g2) (o := 0) rfl (.int .u64 (wd H 0 : Int))
  exact ⟨h.res.kept K (by omega), h.new.kept K (fun e => hq e.symm), (h.wdk.set _ rfl).done, h.bel.trans (K.below (fun b hb => by omega) h.bel.size)⟩
theorem fin {w W : World} {g2 m2 : Nat} {H : Nat → Bool} {a b : Value} (hr : Lay W (w.heap.size + 1) a b) (hw : Wds W g2 m2 H) (hb : Below w.heap.size w W) (hne : w.heap.size + 2 ≤ g2) (x y : Value) :
    ∃ W', W' = (W.setCell ⟨w.heap.size + 1, 0, none⟩ x).setCell ⟨w.heap.size + 1, 1, none⟩ y ∧ Lay W' (w.heap.size + 1) x y ∧ Wds W' g2 m2 H ∧ Below w.heap.size w W' := by
  have K : Kept (fun b => b = w.heap.size + 1) W ((W.setCell ⟨w.heap.size + 1, 0, none⟩ x).setCell ⟨w.heap.size + 1, 1, none⟩ y) := kset (S := fun b => b = w.heap.size + 1) (kset (S := fun b => b = w.heap.size + 1) (Kept.refl (fun b => b = w.heap.size + 1) W) rfl _) rfl _
  exact ⟨_, rfl, hr.put x y, hw.kept K (by omega), hb.trans (K.below (fun b hb => by omega) hb.size)⟩
/-- Words as cells. -/
def wcs (m : Nat) (H : Nat → Bool) : List Value := (List.range m).map fun i => .int .u64 (wd H i : Int)
theorem wcs_length (m : Nat) (H : Nat → Bool) : (wcs m H).length = m := by simp [wcs]
theorem wcs_get (m : Nat) (H : Nat → Bool) (i : Nat) (h : i < (wcs m H).length) : (wcs m H)[i] = .int .u64 (wd H i : Int) := by simp [wcs]
theorem kset_all {b : Nat} : ∀ (vs : List Value) (o : Nat) (w : World), Kept (fun i => i = b) w (w.setCells b o vs)
  | [], _, w => Kept.refl _ _
  | v :: r, o, w => (kset (S := fun i => i = b) (Kept.refl (fun i => i = b) w) rfl v).trans (kset_all r (o + 1) _)
/-- Behind the copy of the words. -/
theorem fin2 {w : World} {n m n2 m2 g q g2 : Nat} {F H : Nat → Bool} {W : World} (h0 : WH w n m n2 m2 g q g2 F H W) (hq : g2 ≠ q) (hs : w.heap.size + 2 ≤ g2) :
    Lay (W.drew.setCells g2 0 (wcs m2 H)) (w.heap.size + 1) (.int .i64 0) (.slice none 0 0) ∧ Lay (W.drew.setCells g2 0 (wcs m2 H)) q (.int .i64 (n2 : Int)) (.slice (some ⟨g2, 0, none⟩) m2 m2) ∧ Wds (W.drew.setCells g2 0 (wcs m2 H)) g2 m2 H ∧ Below w.heap.size w (W.drew.setCells g2 0 (wcs m2 H)) := by
  have h := h0.drew
  have K := kset_all (b := g2) (wcs m2 H) 0 W.drew
  refine ⟨h.res.kept K (by omega), h.new.kept K (fun e => hq e.symm), fun i hi => ⟨?_, ?_⟩, h.bel.trans (K.below (fun b hb => by omega) h.bel.size)⟩
  · have := World.cell?_setCells_in g2 (wcs m2 H) 0 W.drew (fun j hj => by
      rw [wcs_length] at hj
      obtain ⟨⟨v, hv, _⟩, _⟩ := h.wdk j hj
      rw [Nat.zero_add, hv]; rfl) i (by rw [wcs_length]; exact hi)
    rw [Nat.zero_add, wcs_get] at this
    exact this
  · rw [World.frozen?_setCells]; exact (h.wdk i hi).2
theorem nw_low {n : Nat} (h : n ≤ 6) : nw n = 1 := by
  have h6 : 2 ^ n ≤ 2 ^ 6 := Nat.pow_le_pow_right (by omega) h
  have := Nat.one_le_two_pow (n := n)
  unfold nw; omega
theorem nw_high {n : Nat} (h : 6 ≤ n) : nw n = 2 ^ n / 64 ∧ nw (n + 1) = 2 * nw n := by
  have hd : 2 ^ n = 64 * 2 ^ (n - 6) := by rw [show (64 : Nat) = 2 ^ 6 from rfl, ← Nat.pow_add]; congr 1; omega
  have hp : 2 ^ (n + 1) = 2 * 2 ^ n := by rw [Nat.pow_succ]; omega
  unfold nw; omega

end Go.Proofs.Ytmhambifbimndaa.Tc10

/- The program's functions over tables: count, known, not. -/
namespace Go.Proofs.Ytmhambifbimndaa.Te1
open Go.RowKit
open Ta0 Ta1 Ta2 Tc2 Tc4 Tc5 Tc6 Tc7 Tc8 Td1 Td2
open Nd0 (Kept Ints set_other set_same lt_of_cell)
open Ss0 (bs bs_size ret_str bs_ext)
open Ss1 (tl tl_length tl_get tl_take bs_tl tl_bs tl_inj eqb)
set_option linter.unusedVariables false

theorem iOk1 (n : Nat) (F : Nat → Bool) (w : World) (hn : n ≤ 12) :
    Calls Try.prog 32 #[tv (n : Int) (bs (tab n F))] w fun e w' => e = .returned (.bool true) ∧ Below w.heap.size w w' := by
  have := iTableOk (n : Int) (bs (tab n F)) w (by rw [bs_size, tab_length]; have := p12 hn; omega)
  rwa [tl_bs, tab_tok F hn] at this
theorem iOk0 {N : Int} {S : ByteArray} (w : World) (hS : S.size ≤ 1048576) (h : tokB N (tl S) = false) :
    Calls Try.prog 32 #[tv N S] w fun e w' => e = .returned (.bool false) ∧ Below w.heap.size w w' := by
  have := iTableOk N S w hS
  rwa [h] at this
/-- A table packed: what comes of it, with the frame. -/
theorem count_tab (n : Nat) (F : Nat → Bool) : cnt (upto (2 ^ n) F) (64 * nw n) = cnt F (2 ^ n) := cnt_past F _ _ (by unfold nw; omega)
theorem tab_upto (n : Nat) (F : Nat → Bool) : tab n (upto (2 ^ n) F) = tab n F := tab_ext fun i hi => by simp [upto, hi]

set_option maxHeartbeats 400000 in
theorem iBitOk (x : Int) (w : World) : Calls Try.prog 44 #[.int .i64 x] w fun e w' => e = .returned (.bool (bitB x)) ∧ w' = w := by
  by_cases h0 : x = 0
  · have hb : (x == 0) = true := by rw [h0]; rfl
    have HB : Hid (bitB x = true) := decide_eq_true (.inl h0)
    clear h0
    go_enter Try.func44, Try.ntmps44
    go_wp2
    go_ret
    exact ⟨ret_bool HB.out.symm, rfl⟩
  · have hb : (x == 0) = false := beq_eq_false_iff_ne.2 h0
    by_cases h1 : x = 1
    · have hb1 : (x == 1) = true := by rw [h1]; rfl
      have HB : Hid (bitB x = true) := decide_eq_true (.inr h1)
      clear h0 h1
      go_enter Try.func44, Try.ntmps44
      go_wp2
      go_ret
      exact ⟨ret_bool HB.out.symm, rfl⟩
    · have hb1 : (x == 1) = false := beq_eq_false_iff_ne.2 h1
      have HB : Hid (bitB x = false) := decide_eq_false (by omega)
      clear h0 h1
      go_enter Try.func44, Try.ntmps44
      go_wp2
      go_ret
      exact ⟨ret_bool HB.out.symm, rfl⟩

end Go.Proofs.Ytmhambifbimndaa.Te1
