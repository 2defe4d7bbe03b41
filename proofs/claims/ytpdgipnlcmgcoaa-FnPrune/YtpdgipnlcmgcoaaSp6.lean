/- The walk of the model's list of reached nodes. -/
import Derived.Test.YtpdgipnlcmgcoaaSp4
import Derived.Test.YtpdgipnlcmgcoaaSp5
import Derived.Test.YtpdgipnlcmgcoaaPkA
namespace Go.Proofs.Ytpdgipnlcmgcoaa.Sp6
open Go.RowKit
open Nd0 Nd1 Tm0 Tm1 Tm2 Ap0 Ap1 Sp2 Sp4 Sp5
set_option linter.unusedVariables false

set_option maxHeartbeats 2000000 in
theorem sReached (w : World) (a : Option Addr) (l : List Nd) (c : Nat) (hN : Nodes w a l) :
    Calls Try.prog 36 #[.slice a l.length c] w fun e w' => (∃ v, e = .returned v ∧ Ows w' w.heap.size v (reachedL l)) ∧ Below w.heap.size w w' := by
  have HN : Hid (Nodes w a l) := hN
  clear hN
  have hlit : Ows (w.alloc (.cells #[] 3)) w.heap.size (.slice (some ⟨w.heap.size, 0, none⟩) 0 0) [] := Ows.lit w _ (Nat.le_refl _)
  have HLIT : Hid (Ows (w.alloc (.cells #[] 3)) w.heap.size (.slice (some ⟨w.heap.size, 0, none⟩) 0 0) []) := hlit
  clear hlit
  have HB0 : Hid (Below w.heap.size w (w.alloc (.cells #[] 3))) := (Below.refl _ _).alloc (Nat.le_refl _) _
  cases hT : termOk l
  · have HR : Hid (reachedL l = []) := by show reachedL l = []; simp [reachedL, hT]
    go_enter Try.func36, Try.ntmps36
    go_wp2_with fail
    refine (sTermOk _ a l c (HN.out.below HB0.out)).mono ?_
    rintro e w1 ⟨rfl, hb1⟩
    have HB1 : Hid (Below (w.alloc (.cells #[] 3)).heap.size (w.alloc (.cells #[] 3)) w1) := hb1
    clear hb1
    go_wp2
    go_ret
    refine ⟨⟨_, rfl, ?_⟩, HB0.out.trans (HB1.out.mono HB0.out.size)⟩
    rw [HR.out]
    exact HLIT.out.kept (S := fun _ => False) (Kept.ofBelow HB1.out) (fun _ _ h => h)
  · have HR : Hid (reachedL l = reachTo l l.length) := by show reachedL l = _; simp [reachedL, hT]
    have HT : Hid (termOk l = true) := hT
    obtain ⟨hl1, hl2⟩ := term_len hT
    go_enter Try.func36, Try.ntmps36
    go_wp2_with fail
    refine (sTermOk _ a l c (HN.out.below HB0.out)).mono ?_
    rintro e w1 ⟨rfl, hb1⟩
    have HO1 : Hid (Ows w1 w.heap.size (.slice (some ⟨w.heap.size, 0, none⟩) 0 0) []) := HLIT.out.kept (S := fun _ => False) (Kept.ofBelow hb1) (fun _ _ h => h)
    have HB1 : Hid (Below w.heap.size w w1) := HB0.out.trans (hb1.mono HB0.out.size)
    have hs1 : w.heap.size < w1.heap.size := by have := hb1.size; simp at this; omega
    clear hb1
    go_wp2_with fail
    refine (sReach _ a l c (HN.out.below HB1.out) HT.out).mono ?_
    rintro e w2 ⟨⟨vi, rfl, hoi⟩, hb2⟩
    have HO2 : Hid (Ows w2 w.heap.size (.slice (some ⟨w.heap.size, 0, none⟩) 0 0) []) := HO1.out.kept (S := fun _ => False) (Kept.ofBelow hb2) (fun _ _ h => h)
    have HB2 : Hid (Below w.heap.size w w2) := HB1.out.trans (hb2.mono HB1.out.size)
    clear hb2 hT
    obtain ⟨gi, ci, hv, hg1, hg2⟩ := hoi.at (by rw [reachL_length]; exact hl1)
    rw [reachL_length] at hv
    rw [hv]
    have HOI : Hid (Owb w2 w1.heap.size (.slice (some ⟨gi, 0, none⟩) l.length ci) (reachL l)) := hv ▸ hoi
    clear hoi hv
    go_wp2_with fail
    go_loopw [3, 5] (fun v q wr => ∃ k : Nat, k ≤ l.length ∧ q = .int .i64 k ∧ Below w.heap.size w wr ∧ Owb wr w1.heap.size (.slice (some ⟨gi, 0, none⟩) l.length ci) (reachL l) ∧ Ows wr w.heap.size v (reachTo l k) ∧ (∀ b, v.ownBlock = some b → b ≠ gi)) (fun _ q _ => l.length - (intOf q).toNat)
    case atStart =>
      refine ⟨0, Nat.zero_le _, rfl, HB2.out, HOI.out, HO2.out, fun b hb => ?_⟩
      have : b = w.heap.size := by simpa [Value.ownBlock] using hb.symm
      omega
    case round =>
      obtain ⟨k, hk, rfl, hb, hoi, how, hne⟩ := hrel
      have HB : Hid (Below w.heap.size w wr) := hb
      have HI : Hid (Owb wr w1.heap.size (.slice (some ⟨gi, 0, none⟩) l.length ci) (reachL l)) := hoi
      have HO : Hid (Ows wr w.heap.size u3 (reachTo l k)) := how
      have HNE : Hid (∀ b, u3.ownBlock = some b → b ≠ gi) := hne
      have hBs : w.heap.size ≤ wr.heap.size := hb.size
      have hgw : gi < wr.heap.size := (hoi.lt gi rfl).2
      clear hb how hne
      by_cases hlt : k < l.length
      · have hlz : (k : Int) < (l.length : Int) := by omega
        have cI := (hoi.cell' (reachL_length l) k hlt).1
        rw [flag_get] at cI
        clear hoi
        have hrl := reachTo_length l k
        have HSC : Hid (reachTo l (k + 1) = if flag (reachL l) k then reachTo l k ++ [(k : Int)] else reachTo l k) := reachTo_succ l k
        cases hf : flag (reachL l) k
        · rw [hf] at cI
          go_wp2
          go_roundw
          case rel =>
            refine ⟨k + 1, by omega, by go_num, HB.out, HI.out, ?_, HNE.out⟩
            have h9 := HSC.out
            rw [hf] at h9
            rw [h9]
            exact HO.out
          case measure => simp [intOf]; omega
        · rw [hf] at cI
          go_wp2_with (at_builtin; go_must (refine app_int _ rfl _ _ rfl w.heap.size u3 (reachTo l k) (k : Int) rfl rfl HO.out hBs (by omega) ?_; intro g cp w3 ho3 hk3 hg3))
          have HO3 : Hid (Ows w3 w.heap.size (.slice (some ⟨g, 0, none⟩) ((reachTo l k).length + 1) cp) (reachTo l k ++ [(k : Int)])) := ho3
          have HK3 : Hid (Kept (fun b => u3.ownBlock = some b) wr w3) := hk3
          have HG3 : Hid (u3.ownBlock = some g ∨ wr.heap.size ≤ g) := hg3
          clear ho3 hk3 hg3
          go_wp2
          go_roundw
          case rel =>
            refine ⟨k + 1, by omega, by go_num, HB.out.trans (HK3.out.below (fun b hb => (HO.out.lt b hb).1) hBs), HI.out.kept HK3.out (fun b hb h => by
              have e : b = gi := by simpa [Value.ownBlock] using hb.symm
              exact HNE.out b h e), ?_, ?_⟩
            · have h9 := HSC.out
              rw [hf] at h9
              rw [h9]
              exact HO3.out
            · intro b hb
              have e : b = g := by simpa [Value.ownBlock] using hb.symm
              subst e
              rcases HG3.out with h | h
              · exact HNE.out _ h
              · omega
          case measure => simp [intOf]; omega
      · have e : k = l.length := by omega
        subst e
        go_wp2
        go_ret
        exact ⟨⟨_, rfl, by rw [HR.out]; exact HO.out⟩, HB.out⟩

end Go.Proofs.Ytpdgipnlcmgcoaa.Sp6
