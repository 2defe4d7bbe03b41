/- Small texts of mine, one behind the other. -/
import Derived.Test.YtlpbfbghgacjiaaRows
import Derived.ProofKit
import Derived.Deep.Slices
import Derived.Deep.RegionWith
import Derived.Test.YtlpbfbghgacjiaaPkR0
import Derived.Test.YtlpbfbghgacjiaaPkR2
import Derived.Test.YtlpbfbghgacjiaaPkR21
import Derived.Test.YtlpbfbghgacjiaaPkR18
/- Arguments that are picks, opened. -/
namespace Go.Proofs.Ytlpbfbghgacjiaa.Op6
open Go.RowKit Go.ChangeShapes Go.WideShapes
open Nd0
set_option linter.unusedVariables false

/-- A pick as plain data. -/
structure Pk where
  l : List Int
  v : Int
/-- It can be read at place p of block b. -/
def PkAt (w : World) (b p : Nat) (k : Pk) : Prop := ∃ a c, w.cell? ⟨b, p, none⟩ = some (.slice a k.l.length c) ∧ w.cell? ⟨b, p + 1, none⟩ = some (.int .i64 k.v) ∧ Ints w a k.l
/-- A slice of picks can be read at address a. -/
def Pks (w : World) (a : Option Addr) (ps : List Pk) : Prop :=
  ps.length ≤ maxLen ∧ (ps.length = 0 ∨ ∃ b o, a = some ⟨b, o, none⟩ ∧ ∀ i (h : i < ps.length), PkAt w b (o + i * 2) ps[i])

theorem cellsInt : Try.prog.cellsOf 3 = 1 := by kernel_rfl
theorem cellsPick : Try.prog.cellsOf 57 = 2 := by kernel_rfl
theorem cellsSl : Try.prog.cellsOf 35 = 1 := by kernel_rfl
theorem exactly {α : Type} (l : List α) (h : l.length = 2) : ∃ z0 z1, l = [z0, z1] := by
  match l, h with
  | [z0, z1], _ => exact ⟨z0, z1, rfl⟩

section
variable {H : Type} {enc : TypeId × Value → H} {w : World} {base : Nat} {spare : Nat → Bool} {held : Bool}

theorem pick_wf {fuel : Nat} {cs : List Value} {x : DataW H × List MemPlace} (h : DataW.trod enc Try.prog w base spare held fuel 57 cs = some x) :
    ∃ (a : Option Addr) (c : Nat) (l : List Int) (v : Int), cs = [.slice a l.length c, .int .i64 v] ∧ Ints w a l ∧ (Lit.int .i64 v).wf = true := by
  obtain ⟨xs, m, _, rfl, hl, hlen, hf⟩ := DataW.trod_struct Try.underlying57 h
  rw [cellsPick] at hl
  obtain ⟨c0, c1, rfl⟩ := exactly cs hl
  obtain ⟨y0, y1, rfl⟩ := exactly xs (by simpa using hlen)
  have g0 := hf 0 _ rfl
  have g1 := hf 1 _ rfl
  simp [cellsInt, cellsSl] at g0 g1
  obtain ⟨n1, e1, _, r1⟩ := DataW.trod_int Try.underlying3 g1
  simp at e1
  subst e1
  rcases Deep.open_slice Try.underlying35 g0 with ⟨hcs, _⟩ | ⟨b, len', cap', m, n, D, Pl, hcs, _⟩
  · simp at hcs
    subst hcs
    exact ⟨none, 0, [], n1, rfl, ⟨Nat.zero_le _, .inl rfl⟩, r1⟩
  · simp at hcs
    subst hcs
    obtain ⟨_, l, hl, hA⟩ := Op2.ints_open g0
    subst hl
    exact ⟨_, _, l, n1, rfl, hA, r1⟩
theorem pick_open {fuel : Nat} {cs : List Value} {x : DataW H × List MemPlace} (h : DataW.trod enc Try.prog w base spare held fuel 57 cs = some x) :
    ∃ (a : Option Addr) (c : Nat) (l : List Int) (v : Int), cs = [.slice a l.length c, .int .i64 v] ∧ Ints w a l := by
  obtain ⟨a, c, l, v, h1, h2, _⟩ := pick_wf h
  exact ⟨a, c, l, v, h1, h2⟩
theorem cellsPk {a : Addr} {cs : List Value} (h : w.cells? base a 2 = some cs) : cs.length = 2 ∧ ∀ i, i < 2 → w.cell? (a.add i) = cs[i]? := by
  unfold World.cells? at h
  split at h
  · have hl : cs.length = 2 := by simpa using mapM_some_length h
    refine ⟨hl, fun i hi => ?_⟩
    have := mapM_some_get h i i (by simp [hi])
    exact this
  · cases h
theorem picks_open {fuel : Nat} {a : Option Addr} {len cap : Nat} {x : DataW H × List MemPlace} (h : DataW.trod enc Try.prog w base spare held fuel 49 [.slice a len cap] = some x) :
    len ≤ maxLen ∧ ∃ ps : List Pk, ps.length = len ∧ Pks w a ps ∧ ∀ p ∈ ps, (Lit.int .i64 p.v).wf = true := by
  rcases Deep.open_slice Try.underlying49 h with ⟨hcs, _⟩ | ⟨b, len', cap', m, n, D, Pl, hcs, _, hl, hm, hmm, _, hc⟩
  · simp at hcs
    obtain ⟨rfl, rfl, rfl⟩ := hcs
    exact ⟨Nat.zero_le _, [], rfl, ⟨Nat.zero_le _, .inl rfl⟩, fun p hp => by cases hp⟩
  · simp at hcs
    obtain ⟨rfl, rfl, rfl⟩ := hcs
    have hlm : len ≤ m := by rw [hmm]; split <;> omega
    have hall : ∀ i, i < len → ∃ k : Pk, ∃ a c, w.cell? ((b.add (i * 2)).add 0) = some (.slice a k.l.length c) ∧ w.cell? ((b.add (i * 2)).add 1) = some (.int .i64 k.v) ∧ Ints w a k.l ∧ (Lit.int .i64 k.v).wf = true := by
      intro i hi
      obtain ⟨cs', h1, h2⟩ := hc i (by omega)
      rw [cellsPick] at h1
      obtain ⟨a, c, l, v, rfl, hI, hW⟩ := pick_wf h2
      have := (cellsPk h1).2
      exact ⟨⟨l, v⟩, a, c, this 0 (by omega), this 1 (by omega), hI, hW⟩
    refine ⟨by omega, ?_⟩
    obtain ⟨f, hf⟩ : ∃ f : Nat → Pk, ∀ i, i < len → ∃ a c, w.cell? ((b.add (i * 2)).add 0) = some (.slice a (f i).l.length c) ∧ w.cell? ((b.add (i * 2)).add 1) = some (.int .i64 (f i).v) ∧ Ints w a (f i).l ∧ (Lit.int .i64 (f i).v).wf = true := by
      classical
      refine ⟨fun i => if hi : i < len then Classical.choose (hall i hi) else ⟨[], 0⟩, fun i hi => ?_⟩
      simp only [dif_pos hi]
      exact Classical.choose_spec (hall i hi)
    have hwf : ∀ p ∈ (List.range len).map f, (Lit.int .i64 p.v).wf = true := by
      intro p hp
      obtain ⟨i, hi, rfl⟩ := List.mem_map.1 hp
      obtain ⟨_, _, _, _, _, h4⟩ := hf i (List.mem_range.1 hi)
      exact h4
    refine ⟨(List.range len).map f, by simp, ⟨by simp; omega, ?_⟩, hwf⟩
    by_cases h0 : len = 0
    · exact .inl (by simp [h0])
    · obtain ⟨xb, xo, spot⟩ := b
      have hs : spot = none := by
        obtain ⟨a, c, this, _⟩ := hf 0 (by omega)
        simp [Addr.add] at this
        simpa using World.cell?_spot this
      subst hs
      refine .inr ⟨xb, xo, rfl, fun i hi => ?_⟩
      have hi' : i < len := by simpa using hi
      obtain ⟨a, c, g0, g1, g2, _⟩ := hf i hi'
      simp only [Addr.add_lit] at g0 g1
      have e : ((List.range len).map f)[i] = f i := by simp
      rw [e]
      exact ⟨a, c, g0, g1, g2⟩
end

end Go.Proofs.Ytlpbfbghgacjiaa.Op6

/- Lists of picks: the laws' small functions. -/
namespace Go.Proofs.Ytlpbfbghgacjiaa.Wp7
open Go.RowKit
open Nd0 (Kept Ints WInts IntsIn lt_of_cell set_same set_other)
open Op6 (Pk PkAt Pks)
open Wp0
set_option linter.unusedVariables false

theorem pkat_kept {w w' : World} {b p : Nat} {k : Pk} (h : PkAt w b p k) {S : Nat → Prop} (kk : Kept S w w') (hb : ¬ S b) (hv : ∀ a c, w.cell? ⟨b, p, none⟩ = some (.slice a k.l.length c) → Ints w a k.l → Ints w' a k.l) : PkAt w' b p k := by
  obtain ⟨a, c, h1, h2, h3⟩ := h
  have hlt := lt_of_cell h1
  exact ⟨a, c, by rw [kk.cell (p := ⟨b, p, none⟩) hlt hb]; exact h1, by rw [kk.cell (p := ⟨b, p + 1, none⟩) hlt hb]; exact h2, hv a c h1 h3⟩
theorem pkat_below {w w' : World} {b p : Nat} {k : Pk} (h : PkAt w b p k) (kk : Below w.heap.size w w') : PkAt w' b p k := pkat_kept h (S := fun _ => False) (Kept.ofBelow kk) (fun h => h) (fun _ _ _ h => h.below kk)
theorem pks_below {w w' : World} {a : Option Addr} {ps : List Pk} (h : Pks w a ps) (kk : Below w.heap.size w w') : Pks w' a ps := by
  refine ⟨h.1, ?_⟩
  rcases h.2 with e | ⟨b, o, e, hc⟩
  · exact .inl e
  · exact .inr ⟨b, o, e, fun i hi => pkat_below (hc i hi) kk⟩
set_option maxRecDepth 100000 in
set_option maxHeartbeats 2000000 in
theorem szPickS (w : World) (a : Option Addr) (ps : List Pk) (c : Nat) (left : Int) (h : Pks w a ps) (h0 : 0 ≤ left) (h1 : left ≤ 1048576) :
    Calls Try.prog 27 #[.slice a ps.length c, .int .i64 left] w fun e w' => ∃ r : Int, e = .returned (.int .i64 r) ∧ -1 ≤ r ∧ r ≤ left ∧ (0 ≤ r → ps.length ≤ 1048576 ∧ ∀ p ∈ ps, p.l.length ≤ 1048576) ∧ Below w.heap.size w w' := by
  have H : Hid (Pks w a ps) := h
  have hm := h.1
  unfold maxLen at hm
  clear h
  by_cases hl : left - (ps.length : Int) < 0
  · go_enter Try.func27, Try.ntmps27
    go_wp2
    go_ret
    exact ⟨-1, rfl, by omega, by omega, fun e => by omega, Below.refl _ _⟩
  go_enter Try.func27, Try.ntmps27
  go_wp2
  go_loopw [1, 5] (fun q i wr => ∃ (k : Nat) (z : Int), k ≤ ps.length ∧ i = .int .i64 k ∧ q = .int .i64 z ∧ 0 ≤ z ∧ z ≤ left ∧ (∀ j (hj : j < ps.length), j < k → ps[j].l.length ≤ 1048576) ∧ Below w.heap.size w wr) (fun _ i _ => ps.length - (intOf i).toNat)
  case atStart => exact ⟨0, left - (ps.length : Int), Nat.zero_le _, rfl, rfl, by omega, by omega, fun j _ hj => by omega, Below.refl _ _⟩
  case round =>
    obtain ⟨k, z, hk, rfl, rfl, hz0, hz1, hbt, hb⟩ := hrel
    have HBT : Hid (∀ j (hj : j < ps.length), j < k → ps[j].l.length ≤ 1048576) := hbt
    have HB : Hid (Below w.heap.size w wr) := hb
    clear hbt hb
    by_cases hlt : k < ps.length
    · have hlz : (k : Int) < (ps.length : Int) := by omega
      obtain ⟨b, o, ha, hc⟩ : ∃ b o, a = some ⟨b, o, none⟩ ∧ PkAt wr b (o + k * 2) ps[k] := by
        rcases (pks_below H.out HB.out).2 with e | ⟨b, o, e, hc⟩
        · omega
        · exact ⟨b, o, e, hc k hlt⟩
      subst ha
      obtain ⟨a5, c5, p0, p1, p2⟩ := hc
      have hbl := lt_of_cell p0
      have hm5 := p2.1
      have HNX : Hid (ps[k].l.length ≤ 1048576 → ∀ j (hj : j < ps.length), j < k + 1 → ps[j].l.length ≤ 1048576) := fun h j hj h2 => by
        by_cases e : j = k
        · subst e; exact h
        · exact HBT.out j hj (by omega)
      clear p2
      generalize ps[k].l.length = n5 at *
      generalize ps[k].v = v5 at *
      have HSZ : Hid (∀ W, Calls Try.prog 32 #[pv a5 n5 c5 v5, .int .i64 z] W fun e w' => e = .returned (.int .i64 (if (n5 : Int) ≤ z then z - n5 else -1)) ∧ Below W.heap.size W w') := fun W => szPick W a5 n5 c5 v5 z hz0 (by omega) hm5
      by_cases hc5 : (n5 : Int) ≤ z
      · rw [if_pos hc5] at HSZ
        have hz3 : ¬ z - (n5 : Int) < 0 := by omega
        go_wp2_with (go_at_call 32; refine (HSZ.out _).mono ?_; rintro e w1 ⟨rfl, hb1⟩; have HB1 : Hid (Below w.heap.size w w1) := HB.out.trans (hb1.mono HB.out.size); clear hb1)
        go_roundw
        case rel => exact ⟨k + 1, _, by omega, by go_num, rfl, by omega, by omega, HNX.out (by omega), HB1.out⟩
        case measure => simp [intOf]; omega
      · rw [if_neg hc5] at HSZ
        go_wp2_with (go_at_call 32; refine (HSZ.out _).mono ?_; rintro e w1 ⟨rfl, hb1⟩; have HB1 : Hid (Below w.heap.size w w1) := HB.out.trans (hb1.mono HB.out.size); clear hb1)
        go_ret
        exact ⟨-1, rfl, by omega, by omega, fun e => by omega, HB1.out⟩
    · go_wp2
      go_ret
      exact ⟨z, rfl, by omega, hz1, fun _ => ⟨by omega, fun p hp => by obtain ⟨j, hj, rfl⟩ := List.getElem_of_mem hp; exact HBT.out j hj (by omega)⟩, HB.out⟩

set_option maxRecDepth 100000 in
set_option maxHeartbeats 2000000 in
theorem eqPickS (w : World) (a a' : Option Addr) (ps : List Pk) (c c' : Nat) (h : Pks w a ps) (h' : Pks w a' ps) :
    Calls Try.prog 22 #[.slice a ps.length c, .slice a' ps.length c'] w fun e w' => e = .returned (.bool true) ∧ Below w.heap.size w w' := by
  have H : Hid (Pks w a ps) := h
  have H' : Hid (Pks w a' ps) := h'
  have hm := h.1
  unfold maxLen at hm
  clear h h'
  go_enter Try.func22, Try.ntmps22
  go_wp2
  go_loopw [5] (fun i wr => ∃ k : Nat, k ≤ ps.length ∧ i = .int .i64 k ∧ Below w.heap.size w wr) (fun i _ => ps.length - (intOf i).toNat)
  case atStart => exact ⟨0, Nat.zero_le _, rfl, Below.refl _ _⟩
  case round =>
    obtain ⟨k, hk, rfl, hb⟩ := hrel
    have HB : Hid (Below w.heap.size w wr) := hb
    clear hb
    by_cases hlt : k < ps.length
    · have hlz : (k : Int) < (ps.length : Int) := by omega
      obtain ⟨b, o, ha, hc⟩ : ∃ b o, a = some ⟨b, o, none⟩ ∧ PkAt wr b (o + k * 2) ps[k] := by
        rcases (pks_below H.out HB.out).2 with e | ⟨b, o, e, hc⟩
        · omega
        · exact ⟨b, o, e, hc k hlt⟩
      obtain ⟨b', o', ha', hc'⟩ : ∃ b o, a' = some ⟨b, o, none⟩ ∧ PkAt wr b (o + k * 2) ps[k] := by
        rcases (pks_below H'.out HB.out).2 with e | ⟨b, o, e, hc⟩
        · omega
        · exact ⟨b, o, e, hc k hlt⟩
      subst ha ha'
      obtain ⟨a5, c5, p0, p1, p2⟩ := hc
      obtain ⟨a6, c6, q0, q1, q2⟩ := hc'
      have hbl := lt_of_cell p0
      have hbl' := lt_of_cell q0
      have P2 : Hid (Ints wr a5 ps[k].l) := p2
      have Q2 : Hid (Ints wr a6 ps[k].l) := q2
      clear p2 q2
      generalize ps[k].l = l5 at *
      generalize ps[k].v = v5 at *
      go_wp2
      go_region_with (go_at_call 36; (with_reducible refine (eqPick _ a5 a6 l5 c5 c6 v5 (P2.out.below (Below.refl _ _).drew) (Q2.out.below (Below.refl _ _).drew)).mono ?_); rintro e w1 ⟨rfl, hbe⟩)
      all_goals
        have HB2 : Hid (Below w.heap.size w w1) := HB.out.drew.trans (hbe.mono (by have := HB.out.size; simpa using this))
        clear hbe
        go_wp2
        go_roundw
        case rel => exact ⟨k + 1, by omega, by go_num, HB2.out⟩
        case measure => simp [intOf]; omega
    · go_wp2
      go_ret
      exact ⟨rfl, HB.out⟩
end Go.Proofs.Ytlpbfbghgacjiaa.Wp7

/- The program's first picks. -/
namespace Go.Proofs.Ytlpbfbghgacjiaa.Wp13
open Go.RowKit
open Nd0 (Kept Ints WInts IntsIn lt_of_cell)
open Op6 (Pk PkAt Pks)
open Ta2 (bitB plc)
open Vo0 (allB valB iVals)
open Tc5 (Lay)
open Mv0 (Mv Sp Sm putF)
open Wp0 Wp7 Wp12
set_option linter.unusedVariables false

def sp (l : List Int) : Sp := (l.length, plc l l.length)
/-- The Val of the first pick at a spot. -/
def fp : List Pk → Sp → Option Int
  | [], _ => none
  | p :: r, x => if valB p.l 12 = true ∧ sp p.l = x then some p.v else fp r x
theorem fp_snoc (l : List Pk) (p : Pk) (x : Sp) : fp (l ++ [p]) x = if (fp l x).isSome = true then fp l x else if valB p.l 12 = true ∧ sp p.l = x then some p.v else none := by
  induction l with
  | nil => rfl
  | cons q r ih =>
    show fp (q :: (r ++ [p])) x = _
    unfold fp
    by_cases h : valB q.l 12 = true ∧ sp q.l = x
    · rw [if_pos h, if_pos h]; rfl
    · rw [if_neg h, if_neg h]
      exact ih
theorem val_bits {l : List Int} (h : valB l 12 = true) : (∀ i, i < l.length → bitB (l.getD i 0) = true) ∧ l.length ≤ 12 := by
  unfold valB allB at h
  simp at h
  refine ⟨fun i hi => ?_, by omega⟩
  have : l.getD i 0 = l[i] := by simp [List.getD, hi]
  rw [this]
  exact h.1 _ (List.getElem_mem hi)
theorem sp_small {l : List Int} (h : valB l 12 = true) : Sm (sp l) := by
  obtain ⟨h1, h2⟩ := val_bits h
  have h3 := Ta2.plc_lt h1
  have h4 : 2 ^ l.length ≤ 2 ^ 12 := Nat.pow_le_pow_right (by decide) h2
  exact ⟨by show l.length ≤ _; omega, by show plc l l.length ≤ _; omega⟩
set_option maxRecDepth 100000 in
set_option maxHeartbeats 4000000 in
theorem iFirst (w : World) (a : Option Addr) (ps : List Pk) (c : Nat) (h : Pks w a ps) (hl : ps.length ≤ 1048576) (hw : ∀ p ∈ ps, (Lit.int .i64 p.v).wf = true) :
    Calls Try.prog 53 #[.slice a ps.length c] w fun e w' => (∃ bm, e = .returned (.map (some bm)) ∧ w.heap.size ≤ bm ∧ ∃ k, Mv w' bm k (fp ps)) ∧ Below w.heap.size w w' := by
  have H : Hid (Pks w a ps) := h
  have HWF : Hid (∀ p ∈ ps, (Lit.int .i64 p.v).wf = true) := hw
  clear h hw
  have hmm := @run_makeMap Try.prog
  go_enter Try.func53, Try.ntmps53
  go_wp2
  clear hmm
  go_loopw [12] (fun i wr => ∃ k c' : Nat, k ≤ ps.length ∧ i = .int .i64 k ∧ c' ≤ k ∧ Mv wr w.heap.size c' (fp (ps.take k)) ∧ Below w.heap.size w wr) (fun i _ => ps.length - (intOf i).toNat)
  case atStart => exact ⟨0, 0, Nat.zero_le _, rfl, Nat.le_refl _, Mv.new w, (Below.refl _ _).alloc (Nat.le_refl _) _⟩
  case round =>
    obtain ⟨k, c', hk, rfl, hck, hmv, hbr⟩ := hrel
    have HM : Hid (Mv wr w.heap.size c' (fp (ps.take k))) := hmv
    have HB : Hid (Below w.heap.size w wr) := hbr
    clear hmv hbr
    by_cases hlt : k < ps.length
    · have hlz : (k : Int) < (ps.length : Int) := by omega
      obtain ⟨b, o, ha, hc⟩ : ∃ b o, a = some ⟨b, o, none⟩ ∧ PkAt wr b (o + k * 2) ps[k] := by
        rcases (pks_below H.out HB.out).2 with e | ⟨b, o, e, hc⟩
        · omega
        · exact ⟨b, o, e, hc k hlt⟩
      subst ha
      obtain ⟨a5, c5, p0, p1, p2⟩ := hc
      have hbl := lt_of_cell p0
      have P2 : Hid (Ints wr a5 ps[k].l) := p2
      have HW5 : Hid ((Lit.int .i64 ps[k].v).wf = true) := HWF.out _ (List.getElem_mem hlt)
      have HNX : Hid (∀ x, fp (ps.take (k + 1)) x = if (fp (ps.take k) x).isSome = true then fp (ps.take k) x else if valB ps[k].l 12 = true ∧ sp ps[k].l = x then some ps[k].v else none) := fun x => by
        rw [List.take_succ_eq_append_getElem hlt]
        exact fp_snoc _ _ _
      clear p2
      generalize ps[k].l = l5 at *
      generalize ps[k].v = v5 at *
      go_upto_region 5 with fail
      clear p0 p1 hbl
      obtain ⟨W1, hW1⟩ : ∃ X, X = wr.alloc (.cells #[.slice a5 l5.length c5, .int .i64 v5] 60) := ⟨_, rfl⟩
      obtain ⟨qp, hqp⟩ : ∃ q, q = wr.heap.size := ⟨_, rfl⟩
      have hb1 : Below wr.heap.size wr W1 := by rw [hW1]; exact (Below.refl _ _).alloc (Nat.le_refl _) _
      have HP1 : Hid (Pb W1 qp a5 l5.length c5 v5) := by rw [hW1, hqp]; exact Pb.made _ _ _ _ _ _
      have HI1 : Hid (Ints W1 a5 l5) := P2.out.below hb1
      have HB1 : Hid (Below w.heap.size w W1) := HB.out.trans (hb1.mono HB.out.size)
      have HM1 : Hid (Mv W1 w.heap.size c' (fp (ps.take k))) := HM.out.below hb1
      rw [← hW1, ← hqp]
      clear hW1 hqp hb1 P2 HB HM
      have HVO : Hid (Calls Try.prog 71 #[.slice a5 l5.length c5, .int .i64 12] W1 fun e w' => e = .returned (.bool (valB l5 12)) ∧ w' = W1) := iVals a5 l5 c5 12 W1 HI1.out
      obtain ⟨p0, p1⟩ := HP1.out
      have hp := HP1.out.lt
      cases hval : valB l5 12
      · rw [hval] at HVO
        have HE : Hid (fp (ps.take (k + 1)) = fp (ps.take k)) := by
          show _ = _
          funext x
          rw [HNX.out, hval]
          split
          · rfl
          · rename_i hs
            rw [if_neg (by simp)]
            cases hh : fp (ps.take k) x
            · rfl
            · rw [hh] at hs; exact absurd rfl hs
        clear hval
        go_wp2_with (go_at_call 71; refine Calls.mono HVO.out ?_; rintro e w2 ⟨rfl, hw2⟩; have hw2' := hw2.symm; clear hw2; subst hw2')
        go_roundw
        case rel => exact ⟨k + 1, c', by omega, by go_num, by omega, by rw [HE.out]; exact HM1.out, HB1.out⟩
        case measure => simp [intOf]; omega
      · rw [hval] at HVO
        obtain ⟨v1, v2⟩ := val_bits hval
        have HSM : Hid (Sm (sp l5)) := sp_small hval
        have HSP : Hid _ := iSpot a5 l5 c5 W1 v2 v1 HI1.out
        go_upto_region 6 with (go_at_call 71; refine Calls.mono HVO.out ?_; rintro e w2 ⟨rfl, hw2⟩; have hw2' := hw2.symm; clear hw2; subst hw2')
        clear p0 p1 hp
        obtain ⟨p0, p1⟩ := HP1.out
        have hp := HP1.out.lt
        go_wp2_with fail
        clear p0 p1 hp
        refine Calls.mono HSP.out ?_
        rintro e w2 ⟨rfl, hb2⟩
        go_upto_region 7 with fail
        obtain ⟨X, hX⟩ : ∃ X : Sp, X = sp l5 := ⟨_, rfl⟩
        have hX1 : (l5.length : Int) = (X.1 : Int) := by rw [hX]; rfl
        have hX2 : ((plc l5 l5.length : Nat) : Int) = (X.2 : Int) := by rw [hX]; rfl
        rw [hX1, hX2]
        obtain ⟨W2, hW2⟩ : ∃ Z, Z = w2.alloc (.cells #[.int .i64 (X.1 : Int), .int .i64 (X.2 : Int)] 85) := ⟨_, rfl⟩
        obtain ⟨qs, hqs⟩ : ∃ q, q = w2.heap.size := ⟨_, rfl⟩
        have hb3 : Below W1.heap.size W1 W2 := by rw [hW2]; exact hb2.alloc hb2.size _
        have HP2 : Hid (Pb W2 qp a5 l5.length c5 v5) := HP1.out.below hb3
        have HS2 : Hid (Lay W2 qs (.int .i64 (X.1 : Int)) (.int .i64 (X.2 : Int))) := by rw [hW2, hqs]; exact Lay.made _ _ _ _
        have HB2 : Hid (Below w.heap.size w W2) := HB1.out.trans (hb3.mono HB1.out.size)
        have HM2 : Hid (Mv W2 w.heap.size c' (fp (ps.take k))) := HM1.out.below hb3
        have HSMX : Hid (Sm X) := by rw [hX]; exact HSM.out
        have HVX : Hid (∀ x, (valB l5 12 = true ∧ sp l5 = x) ↔ x = X) := fun x => by rw [hX]; exact ⟨fun h => h.2.symm, fun h => ⟨hval, h.symm⟩⟩
        rw [← hW2, ← hqs]
        clear hW2 hqs hb2 hb3 hX hX1 hX2 hval v1 v2 HP1 HB1 HM1 HI1 HVO HSP HSM
        have hlk := HM2.out.look HSMX.out
        obtain ⟨s0, s1, _, _⟩ := HS2.out
        have hs := HS2.out.lt
        obtain ⟨p0, p1⟩ := HP2.out
        have hp := HP2.out.lt
        cases hf : fp (ps.take k) X with
        | some u =>
          rw [hf] at hlk
          have HE : Hid (fp (ps.take (k + 1)) = fp (ps.take k)) := by
            show _ = _
            funext x
            rw [HNX.out]
            by_cases e : x = X
            · subst e; rw [hf]; rfl
            · rw [if_neg (c := valB l5 12 = true ∧ sp l5 = x) (fun h => e ((HVX.out x).1 h))]
              cases hh : fp (ps.take k) x <;> rfl
          clear hf
          go_wp2
          go_roundw
          case rel => exact ⟨k + 1, c', by omega, by go_num, by omega, by rw [HE.out]; exact HM2.out, HB2.out⟩
          case measure => simp [intOf]; omega
        | none =>
          rw [hf] at hlk
          obtain ⟨w3, c3, hst, hc3, hm3, hk3⟩ := HM2.out.store HSMX.out HW5.out hf (by omega)
          have HE : Hid (fp (ps.take (k + 1)) = putF (fp (ps.take k)) X v5) := by
            show _ = _
            funext x
            rw [HNX.out]
            unfold putF
            by_cases e : x = X
            · subst e; rw [hf, if_pos rfl, if_pos ((HVX.out x).2 rfl)]; rfl
            · rw [if_neg (c := valB l5 12 = true ∧ sp l5 = x) (fun h => e ((HVX.out x).1 h)), if_neg e]
              cases hh : fp (ps.take k) x <;> rfl
          have HM3 : Hid (Mv w3 w.heap.size c3 (putF (fp (ps.take k)) X v5)) := hm3
          have HB3 : Hid (Below w.heap.size w w3) := HB2.out.trans (hk3.below (fun b hb => by omega) HB2.out.size)
          clear hf hm3 hk3
          go_wp2
          go_roundw
          case rel => exact ⟨k + 1, c3, by omega, by go_num, by omega, by rw [HE.out]; exact HM3.out, HB3.out⟩
          case measure => simp [intOf]; omega
    · have hlz : ¬ (k : Int) < (ps.length : Int) := by omega
      have HE : Hid (ps.take k = ps) := List.take_of_length_le (by omega)
      go_wp2
      go_ret
      exact ⟨⟨w.heap.size, rfl, Nat.le_refl _, c', by have := HM.out; rwa [HE.out] at this⟩, HB.out⟩
end Go.Proofs.Ytlpbfbghgacjiaa.Wp13
