/- Formulas of every depth drawn; the draw of a sentence. -/
import Derived.Test.YtdmogjhabladcaaGreatDw4
import Derived.Test.YtdmogjhabladcaaGreatSp11
namespace Go.Proofs.YtdmogjhabladcaaGreat.Dw5
open Go.RowKit
open Nd0 Nd3 Ap2 Dw0 Dw1 Dw2 Dw3 Dw4 Tm0 Tm6
open Dr0 (Cur Only Bytes Off)
open Dr1 (once below)
open Sp11 (sSentence)
set_option linter.unusedVariables false

theorem madeC (d : Nat) : MadeC d := by
  induction d with
  | zero => exact madeAny 0 (fun d h => by omega)
  | succ d ih => exact madeAny (d + 1) (fun d' h => by have : d' = d := by omega
                                                       subst this; exact ih)

/-- A sentence drawn: its list, in a block behind the cursor's. -/
def SPost (b : Nat) (a : Option Addr) (len cap : Nat) (w : World) (e : Ending) (w' : World) : Prop :=
  ∃ (g c : Nat) (L : List Nd), e = .returned (.slice (some ⟨g, 0, none⟩) L.length c) ∧ Dr w' b a len cap (.slice (some ⟨g, 0, none⟩) L.length c) L ∧ Kept (fun k => k = b) w w' ∧ 1 ≤ L.length ∧ L.length ≤ 80 ∧ w.heap.size ≤ g

theorem own_at {w : World} {B : Nat} {v : Value} {l : List Nd} (h : Own w B v l) (hl : 1 ≤ l.length) : ∃ g c, v = .slice (some ⟨g, 0, none⟩) l.length c := by
  obtain ⟨h1, h2⟩ := h
  rcases h2 with ⟨rfl, h0⟩ | ⟨g, cap, cur, rfl, _⟩
  · omega
  · exact ⟨g, cap, rfl⟩
theorem sent_len {l : List Nd} (h : sentB l = true) : 1 ≤ l.length := by
  have : termOk l = true := by
    cases ht : termOk l
    · rw [sent_term ht] at h; cases h
    · rfl
  exact (term_len this).1
theorem stp_kept {b : Nat} {v v' : Value} {w0 w w' : World} (hk : Kept (fun k => k = b) w0 w) (s : Stp b v v' w w') (hv : ∀ k, v.ownBlock = some k → w0.heap.size ≤ k) : Kept (fun k => k = b) w0 w' := by
  refine ⟨s.kept.os.trans hk.os, s.kept.tape.trans hk.tape, s.kept.output.trans hk.output, Nat.le_trans hk.size s.kept.size, fun i hi hb => ?_⟩
  rw [s.kept.block i (Nat.lt_of_lt_of_le hi hk.size) (fun e => ?_)]
  · exact hk.block i hi hb
  · rcases e with e | e
    · exact hb e
    · have := hv i e; omega

set_option maxRecDepth 100000 in
set_option maxHeartbeats 4000000 in
theorem sentence (w : World) (b : Nat) (a : Option Addr) (len cap : Nat) (bits : Int) (hc : Cur w b a len cap) (hlo : Low a len b) (hb0 : 0 ≤ bits) (hb1 : bits ≤ 100) :
    Calls Tryz.prog 55 #[.pointer (some ⟨b, 0, none⟩), .int .i64 bits] w (SPost b a len cap w) := by
  have hbs := hc.lt
  have hB1 : Below w.heap.size w (w.alloc (.cells #[] 31)) := (Below.refl _ _).alloc (Nat.le_refl _) _
  have hB2 : Below w.heap.size w ((w.alloc (.cells #[] 31)).alloc (.cells #[] 31)) := hB1.alloc (by simp) _
  have HD : Hid (Dr ((w.alloc (.cells #[] 31)).alloc (.cells #[] 31)) b a len cap (.slice (some ⟨w.heap.size, 0, none⟩) 0 0) []) :=
    ⟨cur_kept hc (S := fun _ => False) (Kept.ofBelow hB2) (fun h => h) (.inr fun _ _ h => h), World.ownsRow.alloc (Own.lit w _ (by omega)) _, hlo⟩
  have HK : Hid (Kept (fun k => k = b) w ((w.alloc (.cells #[] 31)).alloc (.cells #[] 31))) := Kept.ofBelow hB2
  clear hc hlo hB1 hB2
  go_enter Tryz.func55, Tryz.ntmps55
  go_wp2_with fail
  refine (madeC 4 _ b a len cap (.slice (some ⟨w.heap.size, 0, none⟩) 0 0) [] (some ⟨w.heap.size + 1, 0, none⟩) [] 0 0 bits 4 rfl HD.out ⟨⟨Nat.zero_le _, .inl rfl⟩, fun x h => absurd h (Nat.not_lt_zero _)⟩ (fun i h => absurd h (Nat.not_lt_zero _)) (by simp) (by omega) hb0 hb1 (by show 0 + gd 4 ≤ _; decide)).mono ?_
  rintro e w1 ⟨v1, L1, at1, n1, lf1, rfl, hd, hs, hl, _, _, _, _⟩
  obtain ⟨ta, tc, rfl⟩ := hd.slice
  have HD1 : Hid (Dr w1 b a len cap (.slice ta L1.length tc) L1) := hd
  have HK1 : Hid (Kept (fun k => k = b) w w1) := stp_kept HK.out hs (fun k hk => by cases hk; exact Nat.le_refl _)
  have hl1 : L1.length ≤ 700 := by
    have : gd 4 = 655 := by decide
    simp at hl; omega
  have HG1 : Hid (∀ k, (Value.slice ta L1.length tc).ownBlock = some k → w.heap.size ≤ k) := by
    show ∀ _, _
    intro k hk
    rcases hs.new k hk with e | e
    · cases e; exact Nat.le_refl _
    · simp at e; omega
  clear hd hs hl HD HK
  have HLIT : Hid (∀ wz : World, Dr wz b a len cap (.slice ta L1.length tc) L1 → Kept (fun k => k = b) w wz → SPost b a len cap w (.returned (.slice (some ⟨wz.heap.size, 0, none⟩) 2 2)) (wz.alloc (.cells #[.int .i64 1, .int .i64 1, .int .i64 0, .int .i64 0, .int .i64 0, .int .i64 0, .int .i64 20, .int .i64 1, .int .i64 0, .int .i64 0, .int .i64 1, .int .i64 0] 31))) := by
    show ∀ _, _
    intro wz hd hk
    refine ⟨wz.heap.size, 2, [⟨1, 1, 0, 0, 0, 0⟩, ⟨20, 1, 0, 0, 1, 0⟩], rfl, ⟨cur_kept hd.cur (S := fun _ => False) ((Kept.refl _ _).alloc _) (fun h => h) (.inr fun _ _ h => h), ?_, hd.low⟩, hk.alloc _, by simp, by simp, hk.size⟩
    exact World.ownsRow_lit wz #[.int .i64 1, .int .i64 1, .int .i64 0, .int .i64 0, .int .i64 0, .int .i64 0, .int .i64 20, .int .i64 1, .int .i64 0, .int .i64 0, .int .i64 1, .int .i64 0] 2 hd.size (by decide) rfl
  by_cases h80 : 80 < L1.length
  · have h81 : (80 : Int) < (L1.length : Int) := by omega
    go_wp2
    go_ret
    exact HLIT.out _ HD1.out HK1.out
  · have h81 : ¬ (80 : Int) < (L1.length : Int) := by omega
    go_wp2_with fail
    obtain ⟨a2, c2, hv2, hw2⟩ := HD1.out.own.form
    cases hv2
    refine (sSentence _ _ L1 _ hw2.nodes).mono ?_
    rintro e w2 ⟨rfl, hb2⟩
    have HD2 : Hid (Dr w2 b a len cap (.slice ta L1.length tc) L1) := HD1.out.below hb2
    have HK2 : Hid (Kept (fun k => k = b) w w2) := HK1.out.trans (Kept.ofBelow hb2)
    clear hb2 hw2
    cases hS : sentB L1
    · go_wp2
      go_ret
      exact HLIT.out _ HD2.out HK2.out
    · have h1 := sent_len hS
      obtain ⟨g3, c3, hv3⟩ := own_at HD2.out.own h1
      cases hv3
      clear hS
      go_wp2
      go_ret
      exact ⟨g3, tc, L1, rfl, HD2.out, HK2.out, h1, by omega, HG1.out _ rfl⟩

end Go.Proofs.YtdmogjhabladcaaGreat.Dw5
