/- Lists of picks: copied by the laws. -/
import Derived.Laws.MakeOwn
import Derived.Test.YtlpbfbghgacjiaaPkR22
namespace Go.Proofs.Ytlpbfbghgacjiaa.Wp8
open Go.RowKit
open Nd0 (Kept Ints WInts IntsIn lt_of_cell set_same set_other)
open Op6 (Pk PkAt Pks)
open Wp0 Wp7
set_option linter.unusedVariables false

theorem infoPk : (Try.prog.info? 60).map (fun i => (i.zero, i.size, i.bytes)) = some (some (.agg #[.slice none 0 0, .int .i64 0]), 2, 32) := by kernel_rfl
def zerosPk (n : Nat) : Array Value := madeCells #[.slice none 0 0, .int .i64 0] (n * 2)
theorem makePicks (n : Nat) (hn : n ≤ 1048576) (w : World) :
    (Instr.makeSlice 29 (.int .i64 (n : Int)) (.int .i64 (n : Int))).run Try.prog w = .ok (.slice (some ⟨w.heap.size, 0, none⟩) n n) (w.alloc (.cells (zerosPk n) 60)) := by
  obtain ⟨i, hi, hzz⟩ := Option.map_eq_some_iff.1 infoPk
  simp only [Prod.mk.injEq] at hzz
  obtain ⟨hz, hs, hb⟩ := hzz
  have h := run_make (P := Try.prog) w 29 60 i _ Try.underlying29 hi hz .i64 .i64 n n (by omega) (Int.le_refl _) (by rw [hb]; omega) (by omega)
  rw [hs] at h
  simpa [zerosPk, Value.cells] using h
theorem zerosPk_get (n i j : Nat) (h : i < n) (hj : j < 2) : (zerosPk n)[i * 2 + j]? = some (#[.slice none 0 0, .int .i64 0] : Array Value)[j]! := by
  simp only [zerosPk, madeCells, Array.getElem?_map, Array.getElem?_range]
  rw [if_pos (by omega)]
  simp only [Option.map_some]
  have e : (i * 2 + j) % 2 = j := by omega
  exact congrArg (fun m => some ((#[.slice none 0 0, .int .i64 0] : Array Value)[m]!)) e
/-- The first k picks of ps lie in the block g, copied. -/
def Cp (w W : World) (g : Nat) (ps : List Pk) (k : Nat) : Prop :=
  ∀ j (hj : j < ps.length), ∃ a m c v, W.cell? ⟨g, j * 2, none⟩ = some (.slice a m c) ∧ W.cell? ⟨g, j * 2 + 1, none⟩ = some (.int .i64 v) ∧ W.frozen? ⟨g, j * 2, none⟩ = false ∧ W.frozen? ⟨g, j * 2 + 1, none⟩ = false ∧ (j < k → m = ps[j].l.length ∧ v = ps[j].v ∧ IntsIn W (g + 1) W.heap.size a ps[j].l)
theorem in_kept {W W' : World} {B : Nat} {a : Option Addr} {l : List Int} (h : IntsIn W B W.heap.size a l) {S : Nat → Prop} (k : Kept S W W') (hs : ∀ b, B ≤ b → ¬ S b) : IntsIn W' B W'.heap.size a l := by
  refine ⟨h.1, ?_⟩
  rcases h.2 with e | ⟨b, o, ha, hb, hu, hc⟩
  · exact .inl e
  · have := k.size
    exact .inr ⟨b, o, ha, hb, by omega, fun i hi => ⟨by rw [k.cell (p := ⟨b, o + i, none⟩) hu (hs b hb)]; exact (hc i hi).1, by rw [k.frozen (p := ⟨b, o + i, none⟩) hu (hs b hb)]; exact (hc i hi).2⟩⟩
set_option maxRecDepth 100000 in
set_option maxHeartbeats 2000000 in
theorem toPickS (w : World) (a : Option Addr) (ps : List Pk) (c : Nat) (h : Pks w a ps) (hl : ps.length ≤ 1048576) (hv : ∀ p ∈ ps, p.l.length ≤ 1048576) :
    Calls Try.prog 28 #[.slice a ps.length c] w fun e w' => e = .returned (.slice (some ⟨w.heap.size, 0, none⟩) ps.length ps.length) ∧ Cp w w' w.heap.size ps ps.length ∧ Below w.heap.size w w' := by
  have H : Hid (Pks w a ps) := h
  have HV : Hid (∀ p ∈ ps, p.l.length ≤ 1048576) := hv
  clear h hv
  have hmk := makePicks ps.length hl
  go_enter Try.func28, Try.ntmps28
  go_wp2
  clear hmk
  go_loopw [4] (fun i wr => ∃ k : Nat, k ≤ ps.length ∧ i = .int .i64 k ∧ Below w.heap.size w wr ∧ w.heap.size < wr.heap.size ∧ Cp w wr w.heap.size ps k) (fun i _ => ps.length - (intOf i).toNat)
  case atStart =>
    refine ⟨0, Nat.zero_le _, rfl, (Below.refl _ _).alloc (Nat.le_refl _) _, by simp, fun j hj => ?_⟩
    refine ⟨none, 0, 0, 0, ?_, ?_, by simp, by simp, fun e => by omega⟩
    · rw [World.cell?_alloc_new]; exact zerosPk_get _ j 0 hj (by omega)
    · rw [World.cell?_alloc_new]; exact zerosPk_get _ j 1 hj (by omega)
  case round =>
    obtain ⟨k, hk, rfl, hb, hz, hx⟩ := hrel
    have HB : Hid (Below w.heap.size w wr) := hb
    have HX : Hid (Cp w wr w.heap.size ps k) := hx
    clear hb hx
    by_cases hlt : k < ps.length
    · have hlz : (k : Int) < (ps.length : Int) := by omega
      obtain ⟨b, o, ha, hc⟩ : ∃ b o, a = some ⟨b, o, none⟩ ∧ PkAt wr b (o + k * 2) ps[k] := by
        rcases (pks_below H.out HB.out).2 with e | ⟨b, o, e, hc⟩
        · omega
        · exact ⟨b, o, e, hc k hlt⟩
      subst ha
      obtain ⟨a5, c5, p0, p1, p2⟩ := hc
      have hbl := lt_of_cell p0
      have P2 : Hid (Ints wr a5 ps[k].l) := p2
      have HL5 : Hid (ps[k].l.length ≤ 1048576) := HV.out _ (List.getElem_mem hlt)
      obtain ⟨l5, hl5⟩ : ∃ l5, l5 = ps[k].l := ⟨_, rfl⟩
      obtain ⟨v5, hv5⟩ : ∃ v5, v5 = ps[k].v := ⟨_, rfl⟩
      have HL : Hid (l5 = ps[k].l) := hl5
      have HVV : Hid (v5 = ps[k].v) := hv5
      rw [← hl5] at p0 P2 HL5
      rw [← hv5] at p1
      clear p2 hl5 hv5
      go_wp2_with fail
      refine (toPick _ a5 l5 c5 v5 P2.out HL5.out).mono ?_
      rintro e w1 ⟨g, rfl, hin, hb1⟩
      have HB1 : Hid (Below wr.heap.size wr w1) := hb1
      have HIN : Hid (IntsIn w1 wr.heap.size w1.heap.size (some ⟨g, 0, none⟩) l5) := hin
      obtain ⟨a0, m0, c0, v0, q0, q1, f0, f1, _⟩ := HX.out k hlt
      have g0 : w1.frozen? ⟨w.heap.size, k * 2, none⟩ = false := by rw [hb1.frozen (p := ⟨w.heap.size, k * 2, none⟩) hz]; exact f0
      have g1 : w1.frozen? ⟨w.heap.size, k * 2 + 1, none⟩ = false := by rw [hb1.frozen (p := ⟨w.heap.size, k * 2 + 1, none⟩) hz]; exact f1
      have r0 : w1.cell? ⟨w.heap.size, k * 2, none⟩ = some (.slice a0 m0 c0) := by rw [hb1.cell (p := ⟨w.heap.size, k * 2, none⟩) hz]; exact q0
      have r1 : w1.cell? ⟨w.heap.size, k * 2 + 1, none⟩ = some (.int .i64 v0) := by rw [hb1.cell (p := ⟨w.heap.size, k * 2 + 1, none⟩) hz]; exact q1
      have hwl := lt_of_cell r0
      clear hb1 hin p0 p1 q0 q1 f0 f1 hbl
      go_wp2
      go_roundw
      case rel =>
        obtain ⟨Y, hY⟩ : ∃ Y, Y = (w1.setCell ⟨w.heap.size, k * 2, none⟩ (.slice (some ⟨g, 0, none⟩) l5.length l5.length)).setCell ⟨w.heap.size, k * 2 + 1, none⟩ (.int .i64 v5) := ⟨_, rfl⟩
        rw [← hY]
        have KY : Kept (fun b => b = w.heap.size) w1 Y := by rw [hY]; exact ((Kept.refl (fun b => b = w.heap.size) w1).setCell (p := ⟨w.heap.size, k * 2, none⟩) rfl _).setCell (p := ⟨w.heap.size, k * 2 + 1, none⟩) rfl _
        have hs1 := HB1.out.size
        refine ⟨k + 1, by omega, by go_num, (HB.out.trans (HB1.out.mono HB.out.size)).trans (KY.below (fun b hb => by omega) (by have := HB.out.size; omega)), by have := KY.size; omega, fun j hj => ?_⟩
        by_cases e : j = k
        · subst e
          refine ⟨some ⟨g, 0, none⟩, l5.length, l5.length, v5, ?_, ?_, ?_, ?_, fun _ => ⟨by rw [HL.out], HVV.out, ?_⟩⟩
          · rw [hY, set_other (by simp), set_same r0]
          · rw [hY, set_same (by rw [set_other (by simp)]; exact r1)]
          · rw [hY, World.frozen?_setCell, World.frozen?_setCell]; exact g0
          · rw [hY, World.frozen?_setCell, World.frozen?_setCell]; exact g1
          · have h1 := in_kept HIN.out KY (fun b hb e => by omega)
            rw [← HL.out]
            refine ⟨h1.1, ?_⟩
            rcases h1.2 with e | ⟨b, o, ha, hb, r⟩
            · exact .inl e
            · exact .inr ⟨b, o, ha, by omega, r⟩
        · obtain ⟨a2, m2, c2, v2, s0, s1, s2, s3, s4⟩ := HX.out j hj
          have hb1 := HB1.out
          refine ⟨a2, m2, c2, v2, ?_, ?_, ?_, ?_, fun x => ?_⟩
          · rw [hY, set_other (by simp <;> omega), set_other (by simp <;> omega), hb1.cell (p := ⟨w.heap.size, j * 2, none⟩) hz]; exact s0
          · rw [hY, set_other (by simp <;> omega), set_other (by simp <;> omega), hb1.cell (p := ⟨w.heap.size, j * 2 + 1, none⟩) hz]; exact s1
          · rw [hY, World.frozen?_setCell, World.frozen?_setCell, hb1.frozen (p := ⟨w.heap.size, j * 2, none⟩) hz]; exact s2
          · rw [hY, World.frozen?_setCell, World.frozen?_setCell, hb1.frozen (p := ⟨w.heap.size, j * 2 + 1, none⟩) hz]; exact s3
          · obtain ⟨e1, e2, e3⟩ := s4 (by omega)
            exact ⟨e1, e2, in_kept (in_kept e3 (S := fun _ => False) (Kept.ofBelow hb1) (fun _ _ h => h)) KY (fun b hb e => by omega)⟩
      case measure => simp [intOf]; omega
    · go_wp2
      go_ret
      have e : k = ps.length := by omega
      exact ⟨rfl, by rw [← e]; exact HX.out, HB.out⟩
theorem Cp.pks {w W : World} {g : Nat} {ps : List Pk} (h : Cp w W g ps ps.length) (hl : ps.length ≤ maxLen) : Pks W (some ⟨g, 0, none⟩) ps := by
  refine ⟨hl, .inr ⟨g, 0, rfl, fun i hi => ?_⟩⟩
  obtain ⟨a, m, c, v, h1, h2, _, _, h5⟩ := h i hi
  obtain ⟨rfl, rfl, h6⟩ := h5 hi
  rw [Nat.zero_add]
  exact ⟨a, c, h1, h2, h6.wints.ints⟩
theorem Cp.below {w W W' : World} {g : Nat} {ps : List Pk} {k : Nat} (h : Cp w W g ps k) (kk : Below W.heap.size W W') : Cp w W' g ps k := fun j hj => by
  obtain ⟨a, m, c, v, h1, h2, h3, h4, h5⟩ := h j hj
  have hlt := lt_of_cell h1
  exact ⟨a, m, c, v, by rw [kk.cell (p := ⟨g, j * 2, none⟩) hlt]; exact h1, by rw [kk.cell (p := ⟨g, j * 2 + 1, none⟩) hlt]; exact h2, by rw [kk.frozen (p := ⟨g, j * 2, none⟩) hlt]; exact h3, by rw [kk.frozen (p := ⟨g, j * 2 + 1, none⟩) hlt]; exact h4, fun x => ⟨(h5 x).1, (h5 x).2.1, in_kept (h5 x).2.2 (S := fun _ => False) (Kept.ofBelow kk) (fun _ _ h => h)⟩⟩
end Go.Proofs.Ytlpbfbghgacjiaa.Wp8
