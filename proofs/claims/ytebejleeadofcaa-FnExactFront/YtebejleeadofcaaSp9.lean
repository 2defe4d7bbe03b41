/- The walk of the model's list of free variables. -/
import Derived.Test.YtebejleeadofcaaPkXF23
import Derived.Test.YtebejleeadofcaaSp8
namespace Go.Proofs.Ytebejleeadofcaa.Sp9
open Go.RowKit
open Nd0 Nd1 Tm0 Tm1 Tm4 Ap0 Ap1 Sp2 Sp4 Sp8
set_option linter.unusedVariables false

theorem ows_empty {w : World} {B b : Nat} (h : Ows w B (.slice (some ⟨b, 0, none⟩) 0 0) []) (x : Nat) : w.cell? ⟨b, x, none⟩ = none := by
  rcases h.2 with ⟨h0, _⟩ | ⟨g, cap, cur, hv, hb, hg, hn, hm, hs, ht⟩
  · cases h0
  · simp only [Value.slice.injEq, Option.some.injEq, Addr.mk.injEq] at hv
    obtain ⟨⟨rfl, _⟩, _, rfl⟩ := hv
    rw [cell_of_row w b x cur _ _ hg]
    have : cur.size = 0 := by simpa using hs
    simp [this]

set_option maxHeartbeats 2000000 in
theorem sFree (w : World) (a : Option Addr) (l : List Nd) (c : Nat) (hN : Nodes w a l) :
    Calls Try.prog 28 #[.slice a l.length c] w fun e w' => (∃ v, e = .returned v ∧ Ows w' w.heap.size v (freeL l)) ∧ Below w.heap.size w w' := by
  have HN : Hid (Nodes w a l) := hN
  clear hN
  have hlit : Ows (w.alloc (.cells #[] 3)) w.heap.size (.slice (some ⟨w.heap.size, 0, none⟩) 0 0) [] := Ows.lit w _ (Nat.le_refl _)
  have HLIT : Hid (Ows (w.alloc (.cells #[] 3)) w.heap.size (.slice (some ⟨w.heap.size, 0, none⟩) 0 0) []) := hlit
  clear hlit
  have HB0 : Hid (Below w.heap.size w (w.alloc (.cells #[] 3))) := (Below.refl _ _).alloc (Nat.le_refl _) _
  cases hT : termOk l
  · have HR : Hid (freeL l = []) := by show freeL l = []; simp [freeL, hT]
    go_enter Try.func28, Try.ntmps28
    go_wp2_with fail
    refine (sTermOk _ a l c (HN.out.below HB0.out)).mono ?_
    rintro e w1 ⟨rfl, hb1⟩
    have HB1 : Hid (Below (w.alloc (.cells #[] 3)).heap.size (w.alloc (.cells #[] 3)) w1) := hb1
    clear hb1
    go_wp2
    go_ret
    refine ⟨⟨_, rfl, ?_⟩, HB0.out.trans (HB1.out.mono HB0.out.size)⟩
    rw [HR.out]
    exact HLIT.out.kept (S := fun _ => False) (Kept.ofBelow HB1.out) (fun _ _ h => h)
  · have HR : Hid (freeL l = freeTo l 8) := by show freeL l = _; simp [freeL, hT]
    have HT : Hid (termOk l = true) := hT
    obtain ⟨hl1, hl2⟩ := term_len hT
    go_enter Try.func28, Try.ntmps28
    go_wp2_with fail
    refine (sTermOk _ a l c (HN.out.below HB0.out)).mono ?_
    rintro e w1 ⟨rfl, hb1⟩
    have HO1 : Hid (Ows w1 w.heap.size (.slice (some ⟨w.heap.size, 0, none⟩) 0 0) []) := HLIT.out.kept (S := fun _ => False) (Kept.ofBelow hb1) (fun _ _ h => h)
    have HB1 : Hid (Below w.heap.size w w1) := HB0.out.trans (hb1.mono HB0.out.size)
    have hs1 : w.heap.size < w1.heap.size := by have := hb1.size; simp at this; omega
    clear hb1
    go_wp2_with fail
    refine (sFreeTop _ a l c (HN.out.below HB1.out) HT.out).mono ?_
    rintro e w2 ⟨⟨gi, ci, rfl, hg2, hci⟩, hb2⟩
    have HO2 : Hid (Ows w2 w.heap.size (.slice (some ⟨w.heap.size, 0, none⟩) 0 0) []) := HO1.out.kept (S := fun _ => False) (Kept.ofBelow hb2) (fun _ _ h => h)
    have HB2 : Hid (Below w.heap.size w w2) := HB1.out.trans (hb2.mono HB1.out.size)
    have HCI : Hid (∀ x, x < 8 → w2.cell? ⟨gi, x, none⟩ = some (.bool (flag (freeTop l) x))) := hci
    have hgn : gi ≠ w.heap.size := by
      intro e
      have h9 := hci 0 (by omega)
      rw [e, ows_empty HO2.out] at h9
      cases h9
    clear hb2 hT hci
    go_wp2_with fail
    go_loopw [3, 5] (fun v q wr => ∃ k : Nat, k ≤ 8 ∧ q = .int .i64 k ∧ Below w.heap.size w wr ∧ gi < wr.heap.size ∧ (∀ x, x < 8 → wr.cell? ⟨gi, x, none⟩ = some (.bool (flag (freeTop l) x))) ∧ Ows wr w.heap.size v (freeTo l k) ∧ (∀ b, v.ownBlock = some b → b ≠ gi)) (fun _ q _ => 8 - (intOf q).toNat)
    case atStart =>
      refine ⟨0, Nat.zero_le _, rfl, HB2.out, hg2, HCI.out, HO2.out, fun b hb => ?_⟩
      have : b = w.heap.size := by simpa [Value.ownBlock] using hb.symm
      omega
    case round =>
      obtain ⟨k, hk, rfl, hb, hgw, hci, how, hne⟩ := hrel
      have HB : Hid (Below w.heap.size w wr) := hb
      have HI : Hid (∀ x, x < 8 → wr.cell? ⟨gi, x, none⟩ = some (.bool (flag (freeTop l) x))) := hci
      have HO : Hid (Ows wr w.heap.size u3 (freeTo l k)) := how
      have HNE : Hid (∀ b, u3.ownBlock = some b → b ≠ gi) := hne
      have hBs : w.heap.size ≤ wr.heap.size := hb.size
      clear hb how hne
      by_cases hlt : k < 8
      · have hlz : (k : Int) < 8 := by omega
        have cI := hci k hlt
        clear hci
        have hrl := freeTo_length l k
        have HSC : Hid (freeTo l (k + 1) = if flag (freeTop l) k then freeTo l k ++ [(k : Int)] else freeTo l k) := freeTo_succ l k
        cases hf : flag (freeTop l) k
        · rw [hf] at cI
          go_wp2
          go_roundw
          case rel =>
            refine ⟨k + 1, by omega, by go_num, HB.out, hgw, HI.out, ?_, HNE.out⟩
            have h9 := HSC.out
            rw [hf] at h9
            rw [h9]
            exact HO.out
          case measure => simp [intOf]; omega
        · rw [hf] at cI
          go_wp2_with (at_builtin; go_must (refine app_int _ rfl _ _ rfl w.heap.size u3 (freeTo l k) (k : Int) rfl rfl HO.out hBs (by omega) ?_; intro g cp w3 ho3 hk3 hg3))
          have HO3 : Hid (Ows w3 w.heap.size (.slice (some ⟨g, 0, none⟩) ((freeTo l k).length + 1) cp) (freeTo l k ++ [(k : Int)])) := ho3
          have HK3 : Hid (Kept (fun b => u3.ownBlock = some b) wr w3) := hk3
          have HG3 : Hid (u3.ownBlock = some g ∨ wr.heap.size ≤ g) := hg3
          clear ho3 hk3 hg3
          go_wp2
          go_roundw
          case rel =>
            refine ⟨k + 1, by omega, by go_num, HB.out.trans (HK3.out.below (fun b hb => (HO.out.lt b hb).1) hBs), Nat.lt_of_lt_of_le hgw HK3.out.size, (fun x hx => by rw [HK3.out.cell (p := ⟨gi, x, none⟩) hgw (fun h => HNE.out gi h rfl)]; exact HI.out x hx), ?_, ?_⟩
            · have h9 := HSC.out
              rw [hf] at h9
              rw [h9]
              exact HO3.out
            · intro b hb
              have e : b = g := by simpa [Value.ownBlock] using hb.symm
              subst e
              rcases HG3.out with h | h
              · exact HNE.out _ h
              · omega
          case measure => simp [intOf]; omega
      · have e : k = 8 := by omega
        subst e
        go_wp2
        go_ret
        exact ⟨⟨_, rfl, by rw [HR.out]; exact HO.out⟩, HB.out⟩

end Go.Proofs.Ytebejleeadofcaa.Sp9
