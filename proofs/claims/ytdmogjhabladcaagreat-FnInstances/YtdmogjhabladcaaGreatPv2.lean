/- The walk of the program's Replace. -/
import Derived.Test.YtdmogjhabladcaaGreatPkN
import Derived.Test.YtdmogjhabladcaaGreatPkI
import Derived.Test.YtdmogjhabladcaaGreatRp0
namespace Go.Proofs.YtdmogjhabladcaaGreat.Pv2
open Go.RowKit
open Nd0 Nd3 Pl1 Tm0 Tm5 Ap2 Vl1 Vl4 Ic4 Rp0
open Pg1 (iQuant iWordOk)
open Lx1 (ITermOk)
set_option linter.unusedVariables false

set_option maxRecDepth 100000 in
set_option maxHeartbeats 8000000 in
theorem iReplace (hTO : ITermOk) : IReplace := by
  intro w a l c v k hN hcap hlen
  have HN : Hid (Nodes w a l) := hN
  have HTO : Hid ITermOk := hTO
  have HCAP : Hid (l.length ≤ c) := hcap
  clear hN hTO hcap
  have HB0 : Hid (Below w.heap.size w (w.alloc (.cells #[] 31))) := (Below.refl _ _).alloc (Nat.le_refl _) _
  have HLIT : Hid (Own (w.alloc (.cells #[] 31)) w.heap.size (.slice (some ⟨w.heap.size, 0, none⟩) 0 0) []) := Own.lit w _ (Nat.le_refl _)
  go_enter Tryz.func17, Tryz.ntmps17
  go_wp2_with fail
  refine (HTO.out _ a l c (HN.out.below HB0.out) HCAP.out hlen).mono ?_
  rintro e w1 ⟨rfl, hb1⟩
  have HB1 : Hid (Below w.heap.size w w1) := HB0.out.trans (hb1.mono HB0.out.size)
  have HO1 : Hid (Own w1 w.heap.size (.slice (some ⟨w.heap.size, 0, none⟩) 0 0) []) := HLIT.out.kept (S := fun _ => False) (Kept.ofBelow hb1) (fun _ _ h => h)
  clear hb1
  cases hT : termOk l
  · have HE : Hid (replL l v k = none) := repl_term hT
    have HE2 : Hid (replO l v k = []) := by
      show _ = _
      unfold replO; rw [HE.out]; rfl
    go_wp2
    go_ret2
    rw [HE2.out, HE.out]
    obtain ⟨az, cz, hz, hwz⟩ := Own.form (HO1.out)
    cases hz
    exact ⟨⟨_, _, rfl, hwz, own_room (HO1.out)⟩, HB1.out⟩
  · have HT : Hid (termOk l = true) := hT
    obtain ⟨hl1, hl2⟩ := term_len hT
    clear hT
    go_wp2_with fail
    go_loopw [8, 18] (fun vo q wr => ∃ i : Nat, i ≤ l.length ∧ q = .int .i64 i ∧ Own wr w.heap.size vo ((l.take i).map (replN v k)) ∧ (∀ j, j < i → badR v k (nth l j) = false) ∧ Below w.heap.size w wr) (fun _ q _ => l.length - (intOf q).toNat)
    case atStart => exact ⟨0, Nat.zero_le _, rfl, HO1.out, fun j h => by omega, HB1.out⟩
    case round =>
      clear HO1 HB1
      obtain ⟨i, hi, rfl, ho, hbad, hb⟩ := hrel
      have HB : Hid (Below w.heap.size w wr) := hb
      have hBs : w.heap.size ≤ wr.heap.size := hb.size
      have HBAD : Hid (∀ j, j < i → badR v k (nth l j) = false) := hbad
      clear hb hbad
      by_cases hlt : i < l.length
      · have hlz : (i : Int) < (l.length : Int) := by omega
        obtain ⟨ao, co, rfl⟩ := ho.len
        have HLJ : Hid (((l.take i).map (replN v k)).length = i) := by
          show _ = _
          rw [List.length_map, List.length_take]; omega
        have HTK : Hid ((l.take (i + 1)).map (replN v k) = (l.take i).map (replN v k) ++ [replN v k (nth l i)]) := take_step hlt
        have HNO : Hid (badR v k (nth l i) = true → replL l v k = none) := fun h => repl_none hlt h
        have HO : Hid (Own wr w.heap.size (.slice ao ((l.take i).map (replN v k)).length co) ((l.take i).map (replN v k))) := ho
        clear ho
        rcases (HN.out.below HB.out).2 with h0 | ⟨xb, xo, rfl, hc⟩
        · omega
        obtain ⟨p0, p1, p2, p3, p4, p5⟩ := hc i hlt
        rw [nth_get hlt] at p0 p1 p2 p3 p4 p5
        clear hc
        have HNEXT : Hid (badR v k (nth l i) = false → ∀ j, j < i + 1 → badR v k (nth l j) = false) := by
          show _ → _
          intro h j hj
          by_cases e : j = i
          · rw [e]; exact h
          · exact HBAD.out j (by omega)
        generalize hL : (l.take i).map (replN v k) = L at HO HLJ HTK
        clear hL
        have hLl : L.length ≤ 1048576 := by have := HLJ.out; omega
        generalize nth l i = n at p0 p1 p2 p3 p4 p5 HTK HNO HNEXT
        cases hq : quant n.op
        · cases h1 : (n.op == 1)
          · skip
            have HBF : Hid (∀ j, j < i + 1 → badR v k (nth l j) = false) := HNEXT.out (by simp only [badR]; simp_all)
            have HRP : Hid (replN v k n = n) := by
              show _ = _
              simp only [replN]; simp_all
            clear HNO HNEXT
            have HWA : Hid (Own (wr.alloc (.cells #[.int .i64 n.op, .int .i64 n.w, .int .i64 n.k, .int .i64 n.a, .int .i64 n.b, .int .i64 n.c] 31)) w.heap.size (.slice ao L.length co) L) := HO.out.kept (S := fun b => b = wr.heap.size) ((Kept.refl (fun b => b = wr.heap.size) _).alloc _) (fun b hb e => by have := (HO.out.lt b hb).2; omega)
            have HBA : Hid (Below w.heap.size w (wr.alloc (.cells #[.int .i64 n.op, .int .i64 n.w, .int .i64 n.k, .int .i64 n.a, .int .i64 n.b, .int .i64 n.c] 31))) := HB.out.trans (Kept.below (S := fun b => b = wr.heap.size) ((Kept.refl (fun b => b = wr.heap.size) _).alloc _) (fun b (e : b = wr.heap.size) => by omega) hBs)
            have hBs2 : w.heap.size ≤ (wr.alloc (.cells #[.int .i64 n.op, .int .i64 n.w, .int .i64 n.k, .int .i64 n.a, .int .i64 n.b, .int .i64 n.c] 31)).heap.size := HBA.out.size
            go_wp2_with (first | (go_at_call 53; refine (iQuant _ _).mono ?_; rintro e w' ⟨rfl, rfl⟩; rw [hq]) | (go_at_call 54; refine (iWordOk _ _ _).mono ?_; rintro e w' ⟨rfl, rfl⟩; skip) | (at_builtin; go_must (refine app_node _ rfl _ _ rfl w.heap.size (.slice ao L.length co) L n rfl _ rfl (by simp) HWA.out hBs2 hLl ?_; intro g5 cp5 w5 ho5 hk5 hg5; have HO5 : Hid (Own w5 w.heap.size (.slice (some ⟨g5, 0, none⟩) (L.length + 1) cp5) (L ++ [n])) := ho5; have HB5 : Hid (Below w.heap.size w w5) := HBA.out.trans (hk5.below (fun b hb => (HWA.out.lt b hb).1) hBs2); clear ho5 hk5 hg5)))
            go_roundw
            case rel => exact ⟨i + 1, by omega, by go_num, by rw [HTK.out, HRP.out]; exact HO5.out, HBF.out, HB5.out⟩
            case measure => simp [intOf]; omega
          · cases hv : (n.k == v)
            · skip
              have HBF : Hid (∀ j, j < i + 1 → badR v k (nth l j) = false) := HNEXT.out (by simp only [badR]; simp_all)
              have HRP : Hid (replN v k n = n) := by
                show _ = _
                simp only [replN]; simp_all
              clear HNO HNEXT
              have HWA : Hid (Own (wr.alloc (.cells #[.int .i64 n.op, .int .i64 n.w, .int .i64 n.k, .int .i64 n.a, .int .i64 n.b, .int .i64 n.c] 31)) w.heap.size (.slice ao L.length co) L) := HO.out.kept (S := fun b => b = wr.heap.size) ((Kept.refl (fun b => b = wr.heap.size) _).alloc _) (fun b hb e => by have := (HO.out.lt b hb).2; omega)
              have HBA : Hid (Below w.heap.size w (wr.alloc (.cells #[.int .i64 n.op, .int .i64 n.w, .int .i64 n.k, .int .i64 n.a, .int .i64 n.b, .int .i64 n.c] 31))) := HB.out.trans (Kept.below (S := fun b => b = wr.heap.size) ((Kept.refl (fun b => b = wr.heap.size) _).alloc _) (fun b (e : b = wr.heap.size) => by omega) hBs)
              have hBs2 : w.heap.size ≤ (wr.alloc (.cells #[.int .i64 n.op, .int .i64 n.w, .int .i64 n.k, .int .i64 n.a, .int .i64 n.b, .int .i64 n.c] 31)).heap.size := HBA.out.size
              go_wp2_with (first | (go_at_call 53; refine (iQuant _ _).mono ?_; rintro e w' ⟨rfl, rfl⟩; rw [hq]) | (go_at_call 54; refine (iWordOk _ _ _).mono ?_; rintro e w' ⟨rfl, rfl⟩; skip) | (at_builtin; go_must (refine app_node _ rfl _ _ rfl w.heap.size (.slice ao L.length co) L n rfl _ rfl (by simp) HWA.out hBs2 hLl ?_; intro g5 cp5 w5 ho5 hk5 hg5; have HO5 : Hid (Own w5 w.heap.size (.slice (some ⟨g5, 0, none⟩) (L.length + 1) cp5) (L ++ [n])) := ho5; have HB5 : Hid (Below w.heap.size w w5) := HBA.out.trans (hk5.below (fun b hb => (HWA.out.lt b hb).1) hBs2); clear ho5 hk5 hg5)))
              go_roundw
              case rel => exact ⟨i + 1, by omega, by go_num, by rw [HTK.out, HRP.out]; exact HO5.out, HBF.out, HB5.out⟩
              case measure => simp [intOf]; omega
            · cases hwk : wok n.w k
              · skip
                have HE : Hid (replL l v k = none) := HNO.out (by simp only [badR]; simp_all)
                have HE2 : Hid (replO l v k = []) := by
                  show _ = _
                  unfold replO; rw [HE.out]; rfl
                clear HNEXT HNO HTK
                go_wp2_with (first | (go_at_call 53; refine (iQuant _ _).mono ?_; rintro e w' ⟨rfl, rfl⟩; rw [hq]) | (go_at_call 54; refine (iWordOk _ _ _).mono ?_; rintro e w' ⟨rfl, rfl⟩; rw [hwk]))
                go_ret2
                rw [HE2.out, HE.out]
                exact ⟨⟨_, _, rfl, ⟨Nat.zero_le _, .inl rfl⟩, Nat.zero_le _⟩, ((HB.out.alloc hBs _).alloc (by simp; omega) _)⟩
              · skip
                have HBF : Hid (∀ j, j < i + 1 → badR v k (nth l j) = false) := HNEXT.out (by simp only [badR]; simp_all)
                have HRP : Hid (replN v k n = ⟨0, n.w, k, n.a, n.b, n.c⟩) := by
                  show _ = _
                  simp only [replN]; simp_all
                clear HNO HNEXT
                have HWA : Hid (Own (wr.alloc (.cells #[.int .i64 0, .int .i64 n.w, .int .i64 k, .int .i64 n.a, .int .i64 n.b, .int .i64 n.c] 31)) w.heap.size (.slice ao L.length co) L) := HO.out.kept (S := fun b => b = wr.heap.size) ((Kept.refl (fun b => b = wr.heap.size) _).alloc _) (fun b hb e => by have := (HO.out.lt b hb).2; omega)
                have HBA : Hid (Below w.heap.size w (wr.alloc (.cells #[.int .i64 0, .int .i64 n.w, .int .i64 k, .int .i64 n.a, .int .i64 n.b, .int .i64 n.c] 31))) := HB.out.trans (Kept.below (S := fun b => b = wr.heap.size) ((Kept.refl (fun b => b = wr.heap.size) _).alloc _) (fun b (e : b = wr.heap.size) => by omega) hBs)
                have hBs2 : w.heap.size ≤ (wr.alloc (.cells #[.int .i64 0, .int .i64 n.w, .int .i64 k, .int .i64 n.a, .int .i64 n.b, .int .i64 n.c] 31)).heap.size := HBA.out.size
                go_wp2_with (first | (go_at_call 53; refine (iQuant _ _).mono ?_; rintro e w' ⟨rfl, rfl⟩; rw [hq]) | (go_at_call 54; refine (iWordOk _ _ _).mono ?_; rintro e w' ⟨rfl, rfl⟩; rw [hwk]) | (at_builtin; go_must (refine app_node _ rfl _ _ rfl w.heap.size (.slice ao L.length co) L (⟨0, n.w, k, n.a, n.b, n.c⟩ : Nd) rfl _ rfl (by simp) HWA.out hBs2 hLl ?_; intro g5 cp5 w5 ho5 hk5 hg5; have HO5 : Hid (Own w5 w.heap.size (.slice (some ⟨g5, 0, none⟩) (L.length + 1) cp5) (L ++ [(⟨0, n.w, k, n.a, n.b, n.c⟩ : Nd)])) := ho5; have HB5 : Hid (Below w.heap.size w w5) := HBA.out.trans (hk5.below (fun b hb => (HWA.out.lt b hb).1) hBs2); clear ho5 hk5 hg5)))
                go_roundw
                case rel => exact ⟨i + 1, by omega, by go_num, by rw [HTK.out, HRP.out]; exact HO5.out, HBF.out, HB5.out⟩
                case measure => simp [intOf]; omega
        · have h1 : (n.op == 1) = false := by
            have : n.op = 19 ∨ n.op = 20 := by simpa [quant] using hq
            simp; omega
          cases hv : (n.k == v)
          · skip
            have HBF : Hid (∀ j, j < i + 1 → badR v k (nth l j) = false) := HNEXT.out (by simp only [badR]; simp_all)
            have HRP : Hid (replN v k n = n) := by
              show _ = _
              simp only [replN]; simp_all
            clear HNO HNEXT
            have HWA : Hid (Own (wr.alloc (.cells #[.int .i64 n.op, .int .i64 n.w, .int .i64 n.k, .int .i64 n.a, .int .i64 n.b, .int .i64 n.c] 31)) w.heap.size (.slice ao L.length co) L) := HO.out.kept (S := fun b => b = wr.heap.size) ((Kept.refl (fun b => b = wr.heap.size) _).alloc _) (fun b hb e => by have := (HO.out.lt b hb).2; omega)
            have HBA : Hid (Below w.heap.size w (wr.alloc (.cells #[.int .i64 n.op, .int .i64 n.w, .int .i64 n.k, .int .i64 n.a, .int .i64 n.b, .int .i64 n.c] 31))) := HB.out.trans (Kept.below (S := fun b => b = wr.heap.size) ((Kept.refl (fun b => b = wr.heap.size) _).alloc _) (fun b (e : b = wr.heap.size) => by omega) hBs)
            have hBs2 : w.heap.size ≤ (wr.alloc (.cells #[.int .i64 n.op, .int .i64 n.w, .int .i64 n.k, .int .i64 n.a, .int .i64 n.b, .int .i64 n.c] 31)).heap.size := HBA.out.size
            go_wp2_with (first | (go_at_call 53; refine (iQuant _ _).mono ?_; rintro e w' ⟨rfl, rfl⟩; rw [hq]) | (go_at_call 54; refine (iWordOk _ _ _).mono ?_; rintro e w' ⟨rfl, rfl⟩; skip) | (at_builtin; go_must (refine app_node _ rfl _ _ rfl w.heap.size (.slice ao L.length co) L n rfl _ rfl (by simp) HWA.out hBs2 hLl ?_; intro g5 cp5 w5 ho5 hk5 hg5; have HO5 : Hid (Own w5 w.heap.size (.slice (some ⟨g5, 0, none⟩) (L.length + 1) cp5) (L ++ [n])) := ho5; have HB5 : Hid (Below w.heap.size w w5) := HBA.out.trans (hk5.below (fun b hb => (HWA.out.lt b hb).1) hBs2); clear ho5 hk5 hg5)))
            go_roundw
            case rel => exact ⟨i + 1, by omega, by go_num, by rw [HTK.out, HRP.out]; exact HO5.out, HBF.out, HB5.out⟩
            case measure => simp [intOf]; omega
          · skip
            have HE : Hid (replL l v k = none) := HNO.out (by simp only [badR]; simp_all)
            have HE2 : Hid (replO l v k = []) := by
              show _ = _
              unfold replO; rw [HE.out]; rfl
            clear HNEXT HNO HTK
            go_wp2_with (first | (go_at_call 53; refine (iQuant _ _).mono ?_; rintro e w' ⟨rfl, rfl⟩; rw [hq]) | (go_at_call 54; refine (iWordOk _ _ _).mono ?_; rintro e w' ⟨rfl, rfl⟩; skip))
            go_ret2
            rw [HE2.out, HE.out]
            exact ⟨⟨_, _, rfl, ⟨Nat.zero_le _, .inl rfl⟩, Nat.zero_le _⟩, ((HB.out.alloc hBs _).alloc (by simp; omega) _)⟩
      · have hlz : ¬ (i : Int) < (l.length : Int) := by omega
        have e2 : i = l.length := by omega
        have HE : Hid (replL l v k = some (l.map (replN v k))) := repl_some HT.out (fun j hj => HBAD.out j (by omega))
        have HE2 : Hid (replO l v k = (l.take i).map (replN v k)) := by
          show _ = _
          unfold replO; rw [HE.out, List.take_of_length_le (by omega)]; rfl
        have HO : Hid (Own wr w.heap.size u8 ((l.take i).map (replN v k))) := ho
        obtain ⟨ao, co, rfl⟩ := ho.len
        clear ho e2
        generalize (l.take i).map (replN v k) = L at HO HE2 ⊢
        go_wp2
        go_ret2
        rw [HE2.out, HE.out]
        obtain ⟨az, cz, hz, hwz⟩ := Own.form (HO.out)
        cases hz
        exact ⟨⟨_, _, rfl, hwz, own_room (HO.out)⟩, HB.out⟩

end Go.Proofs.YtdmogjhabladcaaGreat.Pv2
