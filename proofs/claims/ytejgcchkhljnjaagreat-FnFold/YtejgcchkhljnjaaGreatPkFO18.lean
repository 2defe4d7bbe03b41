/- Small texts of mine, one behind the other. -/
import Derived.Test.YtejgcchkhljnjaaGreatRows
import Derived.WalkSpells
import Derived.WalkLawsBesides
import Derived.Test.YtejgcchkhljnjaaGreatPkFO17
import Derived.Test.YtejgcchkhljnjaaGreatPkFO1
import Derived.Test.YtejgcchkhljnjaaGreatSp7
import Derived.Test.YtejgcchkhljnjaaGreatPkFO12
import Derived.Test.YtejgcchkhljnjaaGreatPkFO15
import Derived.Test.YtejgcchkhljnjaaGreatPkFO0
import Derived.Test.YtejgcchkhljnjaaGreatPkFO14
import Derived.Test.YtejgcchkhljnjaaGreatWs1
/- A variable told by a number: small facts. -/
namespace Go.Proofs.YtejgcchkhljnjaaGreat.Rp0
open Go.RowKit
open Nd0 Nd3 Pl1 Tm0 Tm5 Ap2 Vl1 Vl4 Ic4
set_option linter.unusedVariables false

theorem repl_none {l : List Nd} {v k : Int} {i : Nat} (hi : i < l.length) (h : badR v k (nth l i) = true) : replL l v k = none := by
  unfold replL
  have : l.any (badR v k) = true := List.any_eq_true.2 ⟨_, List.getElem_mem hi, by rw [nth_get hi]; exact h⟩
  rw [this]; simp
theorem repl_some {l : List Nd} {v k : Int} (hT : termOk l = true) (h : ∀ i, i < l.length → badR v k (nth l i) = false) : replL l v k = some (l.map (replN v k)) := by
  unfold replL
  have : l.any (badR v k) = false := by
    rw [List.any_eq_false]
    intro n hn
    obtain ⟨i, hi, rfl⟩ := List.getElem_of_mem hn
    rw [nth_get hi, h i hi]; simp
  rw [this, hT]; rfl
theorem repl_term {l : List Nd} {v k : Int} (hT : termOk l = false) : replL l v k = none := by unfold replL; rw [hT]; rfl
theorem take_step {l : List Nd} {v k : Int} {i : Nat} (hi : i < l.length) : (l.take (i + 1)).map (replN v k) = (l.take i).map (replN v k) ++ [replN v k (nth l i)] := by
  rw [List.take_succ_eq_append_getElem hi, List.map_append, nth_get hi]; rfl
theorem own_nil (W : World) (B g : Nat) (hg : g = W.heap.size) (hB : B ≤ g) : Ap2.Own (W.alloc (.cells #[] 53)) B (.slice (some ⟨g, 0, none⟩) 0 0) [] := by
  subst hg; exact Own.lit W B hB

end Go.Proofs.YtejgcchkhljnjaaGreat.Rp0

/- The walk of the model's Replace. -/
namespace Go.Proofs.YtejgcchkhljnjaaGreat.Sv2
open Go.RowKit
open Nd0 Nd3 Pl1 Tm0 Tm5 Ap2 Vl1 Vl4 Ic4 Rp0
open Sp10 (sQuant)
open Wd1 (sWordOk)
open Sp4 (sTermOk)
set_option linter.unusedVariables false

set_option maxRecDepth 100000 in
set_option maxHeartbeats 8000000 in
theorem sReplace (w : World) (a : Option Addr) (l : List Nd) (c : Nat) (v k : Int) (hN : Nodes w a l) :
    Calls Tryz.prog 93 #[.slice a l.length c, .int .i64 v, .int .i64 k] w fun e w' => (∃ x, e = .returned (.tuple #[x, .bool (replL l v k).isSome]) ∧ Ap2.Own w' w.heap.size x (replO l v k)) ∧ Below w.heap.size w w' := by
  have HN : Hid (Nodes w a l) := hN
  clear hN
  have HB0 : Hid (Below w.heap.size w (w.alloc (.cells #[] 53))) := (Below.refl _ _).alloc (Nat.le_refl _) _
  have HLIT : Hid (Ap2.Own (w.alloc (.cells #[] 53)) w.heap.size (.slice (some ⟨w.heap.size, 0, none⟩) 0 0) []) := Own.lit w _ (Nat.le_refl _)
  go_enter Tryz.func93, Tryz.ntmps93
  go_wp2_with fail
  refine (sTermOk _ a l c (HN.out.below HB0.out)).mono ?_
  rintro e w1 ⟨rfl, hb1⟩
  have HB1 : Hid (Below w.heap.size w w1) := HB0.out.trans (hb1.mono HB0.out.size)
  have HO1 : Hid (Ap2.Own w1 w.heap.size (.slice (some ⟨w.heap.size, 0, none⟩) 0 0) []) := HLIT.out.kept (S := fun _ => False) (Kept.ofBelow hb1) (fun _ _ h => h)
  clear hb1
  cases hT : termOk l
  · have HE : Hid (replL l v k = none) := repl_term hT
    have HE2 : Hid (replO l v k = []) := by
      show _ = _
      unfold replO; rw [HE.out]; rfl
    go_wp2
    go_ret2
    rw [HE2.out, HE.out]
    exact ⟨⟨_, rfl, HO1.out⟩, HB1.out⟩
  · have HT : Hid (termOk l = true) := hT
    obtain ⟨hl1, hl2⟩ := term_len hT
    clear hT
    go_wp2_with fail
    go_loopw [8, 9] (fun vo q wr => ∃ i : Nat, i ≤ l.length ∧ q = .int .i64 i ∧ Ap2.Own wr w.heap.size vo ((l.take i).map (replN v k)) ∧ (∀ j, j < i → badR v k (nth l j) = false) ∧ Below w.heap.size w wr) (fun _ q _ => l.length - (intOf q).toNat)
    case atStart => exact ⟨0, Nat.zero_le _, rfl, HO1.out, fun j h => by omega, HB1.out⟩
    case round =>
      clear HO1 HB1
      obtain ⟨i, hi, rfl, ho, hbad, hb⟩ := hrel
      have HB : Hid (Below w.heap.size w wr) := hb
      have hBs : w.heap.size ≤ wr.heap.size := hb.size
      have HBAD : Hid (∀ j, j < i → badR v k (nth l j) = false) := hbad
      clear hb hbad
      by_cases hlt : i < l.length
      · have hlz : (i : Int) < (l.length : Int) := by omega
        obtain ⟨ao, co, rfl⟩ := ho.len
        have HLJ : Hid (((l.take i).map (replN v k)).length = i) := by
          show _ = _
          rw [List.length_map, List.length_take]; omega
        have HTK : Hid ((l.take (i + 1)).map (replN v k) = (l.take i).map (replN v k) ++ [replN v k (nth l i)]) := take_step hlt
        have HNO : Hid (badR v k (nth l i) = true → replL l v k = none) := fun h => repl_none hlt h
        have HO : Hid (Ap2.Own wr w.heap.size (.slice ao ((l.take i).map (replN v k)).length co) ((l.take i).map (replN v k))) := ho
        clear ho
        rcases (HN.out.below HB.out).2 with h0 | ⟨xb, xo, rfl, hc⟩
        · omega
        obtain ⟨p0, p1, p2, p3, p4, p5⟩ := hc i hlt
        rw [nth_get hlt] at p0 p1 p2 p3 p4 p5
        clear hc
        have HNEXT : Hid (badR v k (nth l i) = false → ∀ j, j < i + 1 → badR v k (nth l j) = false) := by
          show _ → _
          intro h j hj
          by_cases e : j = i
          · rw [e]; exact h
          · exact HBAD.out j (by omega)
        generalize hL : (l.take i).map (replN v k) = L at HO HLJ HTK
        clear hL
        have hLl : L.length ≤ 1048576 := by have := HLJ.out; omega
        generalize nth l i = n at p0 p1 p2 p3 p4 p5 HTK HNO HNEXT
        cases hq : quant n.op
        · cases h1 : (n.op == 1)
          · skip
            have HBF : Hid (∀ j, j < i + 1 → badR v k (nth l j) = false) := HNEXT.out (by simp only [badR]; simp_all)
            have HRP : Hid (replN v k n = n) := by
              show _ = _
              simp only [replN]; simp_all
            clear HNO HNEXT
            have HWA : Hid (Ap2.Own (wr.alloc (.cells #[.int .i64 n.op, .int .i64 n.w, .int .i64 n.k, .int .i64 n.a, .int .i64 n.b, .int .i64 n.c] 53)) w.heap.size (.slice ao L.length co) L) := HO.out.kept (S := fun b => b = wr.heap.size) ((Kept.refl (fun b => b = wr.heap.size) _).alloc _) (fun b hb e => by have := (HO.out.lt b hb).2; omega)
            have HBA : Hid (Below w.heap.size w (wr.alloc (.cells #[.int .i64 n.op, .int .i64 n.w, .int .i64 n.k, .int .i64 n.a, .int .i64 n.b, .int .i64 n.c] 53))) := HB.out.trans (Kept.below (S := fun b => b = wr.heap.size) ((Kept.refl (fun b => b = wr.heap.size) _).alloc _) (fun b (e : b = wr.heap.size) => by omega) hBs)
            have hBs2 : w.heap.size ≤ (wr.alloc (.cells #[.int .i64 n.op, .int .i64 n.w, .int .i64 n.k, .int .i64 n.a, .int .i64 n.b, .int .i64 n.c] 53)).heap.size := HBA.out.size
            go_wp2_with (first | (go_at_call 51; refine (sQuant _ _).mono ?_; rintro e w' ⟨rfl, rfl⟩; rw [hq]) | (go_at_call 139; refine (sWordOk _ _ _).mono ?_; rintro e w' ⟨rfl, rfl⟩; skip) | (at_builtin; go_must (refine app_node _ rfl _ _ rfl w.heap.size (.slice ao L.length co) L n rfl _ rfl (by simp) HWA.out hBs2 hLl ?_; intro g5 cp5 w5 ho5 hk5 hg5; have HO5 : Hid (Ap2.Own w5 w.heap.size (.slice (some ⟨g5, 0, none⟩) (L.length + 1) cp5) (L ++ [n])) := ho5; have HB5 : Hid (Below w.heap.size w w5) := HBA.out.trans (hk5.below (fun b hb => (HWA.out.lt b hb).1) hBs2); clear ho5 hk5 hg5)))
            go_roundw
            case rel => exact ⟨i + 1, by omega, by go_num, by rw [HTK.out, HRP.out]; exact HO5.out, HBF.out, HB5.out⟩
            case measure => simp [intOf]; omega
          · cases hv : (n.k == v)
            · skip
              have HBF : Hid (∀ j, j < i + 1 → badR v k (nth l j) = false) := HNEXT.out (by simp only [badR]; simp_all)
              have HRP : Hid (replN v k n = n) := by
                show _ = _
                simp only [replN]; simp_all
              clear HNO HNEXT
              have HWA : Hid (Ap2.Own (wr.alloc (.cells #[.int .i64 n.op, .int .i64 n.w, .int .i64 n.k, .int .i64 n.a, .int .i64 n.b, .int .i64 n.c] 53)) w.heap.size (.slice ao L.length co) L) := HO.out.kept (S := fun b => b = wr.heap.size) ((Kept.refl (fun b => b = wr.heap.size) _).alloc _) (fun b hb e => by have := (HO.out.lt b hb).2; omega)
              have HBA : Hid (Below w.heap.size w (wr.alloc (.cells #[.int .i64 n.op, .int .i64 n.w, .int .i64 n.k, .int .i64 n.a, .int .i64 n.b, .int .i64 n.c] 53))) := HB.out.trans (Kept.below (S := fun b => b = wr.heap.size) ((Kept.refl (fun b => b = wr.heap.size) _).alloc _) (fun b (e : b = wr.heap.size) => by omega) hBs)
              have hBs2 : w.heap.size ≤ (wr.alloc (.cells #[.int .i64 n.op, .int .i64 n.w, .int .i64 n.k, .int .i64 n.a, .int .i64 n.b, .int .i64 n.c] 53)).heap.size := HBA.out.size
              go_wp2_with (first | (go_at_call 51; refine (sQuant _ _).mono ?_; rintro e w' ⟨rfl, rfl⟩; rw [hq]) | (go_at_call 139; refine (sWordOk _ _ _).mono ?_; rintro e w' ⟨rfl, rfl⟩; skip) | (at_builtin; go_must (refine app_node _ rfl _ _ rfl w.heap.size (.slice ao L.length co) L n rfl _ rfl (by simp) HWA.out hBs2 hLl ?_; intro g5 cp5 w5 ho5 hk5 hg5; have HO5 : Hid (Ap2.Own w5 w.heap.size (.slice (some ⟨g5, 0, none⟩) (L.length + 1) cp5) (L ++ [n])) := ho5; have HB5 : Hid (Below w.heap.size w w5) := HBA.out.trans (hk5.below (fun b hb => (HWA.out.lt b hb).1) hBs2); clear ho5 hk5 hg5)))
              go_roundw
              case rel => exact ⟨i + 1, by omega, by go_num, by rw [HTK.out, HRP.out]; exact HO5.out, HBF.out, HB5.out⟩
              case measure => simp [intOf]; omega
            · cases hwk : wok n.w k
              · skip
                have HE : Hid (replL l v k = none) := HNO.out (by simp only [badR]; simp_all)
                have HE2 : Hid (replO l v k = []) := by
                  show _ = _
                  unfold replO; rw [HE.out]; rfl
                clear HNEXT HNO HTK
                go_wp2_with (first | (go_at_call 51; refine (sQuant _ _).mono ?_; rintro e w' ⟨rfl, rfl⟩; rw [hq]) | (go_at_call 139; refine (sWordOk _ _ _).mono ?_; rintro e w' ⟨rfl, rfl⟩; rw [hwk]))
                go_ret2
                rw [HE2.out, HE.out]
                exact ⟨⟨_, rfl, (own_nil _ _ _ (by simp) (by omega))⟩, ((HB.out.alloc hBs _).alloc (by simp; omega) _)⟩
              · skip
                have HBF : Hid (∀ j, j < i + 1 → badR v k (nth l j) = false) := HNEXT.out (by simp only [badR]; simp_all)
                have HRP : Hid (replN v k n = ⟨0, n.w, k, n.a, n.b, n.c⟩) := by
                  show _ = _
                  simp only [replN]; simp_all
                clear HNO HNEXT
                have HWA : Hid (Ap2.Own (wr.alloc (.cells #[.int .i64 0, .int .i64 n.w, .int .i64 k, .int .i64 n.a, .int .i64 n.b, .int .i64 n.c] 53)) w.heap.size (.slice ao L.length co) L) := HO.out.kept (S := fun b => b = wr.heap.size) ((Kept.refl (fun b => b = wr.heap.size) _).alloc _) (fun b hb e => by have := (HO.out.lt b hb).2; omega)
                have HBA : Hid (Below w.heap.size w (wr.alloc (.cells #[.int .i64 0, .int .i64 n.w, .int .i64 k, .int .i64 n.a, .int .i64 n.b, .int .i64 n.c] 53))) := HB.out.trans (Kept.below (S := fun b => b = wr.heap.size) ((Kept.refl (fun b => b = wr.heap.size) _).alloc _) (fun b (e : b = wr.heap.size) => by omega) hBs)
                have hBs2 : w.heap.size ≤ (wr.alloc (.cells #[.int .i64 0, .int .i64 n.w, .int .i64 k, .int .i64 n.a, .int .i64 n.b, .int .i64 n.c] 53)).heap.size := HBA.out.size
                go_wp2_with (first | (go_at_call 51; refine (sQuant _ _).mono ?_; rintro e w' ⟨rfl, rfl⟩; rw [hq]) | (go_at_call 139; refine (sWordOk _ _ _).mono ?_; rintro e w' ⟨rfl, rfl⟩; rw [hwk]) | (at_builtin; go_must (refine app_node _ rfl _ _ rfl w.heap.size (.slice ao L.length co) L (⟨0, n.w, k, n.a, n.b, n.c⟩ : Nd) rfl _ rfl (by simp) HWA.out hBs2 hLl ?_; intro g5 cp5 w5 ho5 hk5 hg5; have HO5 : Hid (Ap2.Own w5 w.heap.size (.slice (some ⟨g5, 0, none⟩) (L.length + 1) cp5) (L ++ [(⟨0, n.w, k, n.a, n.b, n.c⟩ : Nd)])) := ho5; have HB5 : Hid (Below w.heap.size w w5) := HBA.out.trans (hk5.below (fun b hb => (HWA.out.lt b hb).1) hBs2); clear ho5 hk5 hg5)))
                go_roundw
                case rel => exact ⟨i + 1, by omega, by go_num, by rw [HTK.out, HRP.out]; exact HO5.out, HBF.out, HB5.out⟩
                case measure => simp [intOf]; omega
        · have h1 : (n.op == 1) = false := by
            have : n.op = 19 ∨ n.op = 20 := by simpa [quant] using hq
            simp; omega
          cases hv : (n.k == v)
          · skip
            have HBF : Hid (∀ j, j < i + 1 → badR v k (nth l j) = false) := HNEXT.out (by simp only [badR]; simp_all)
            have HRP : Hid (replN v k n = n) := by
              show _ = _
              simp only [replN]; simp_all
            clear HNO HNEXT
            have HWA : Hid (Ap2.Own (wr.alloc (.cells #[.int .i64 n.op, .int .i64 n.w, .int .i64 n.k, .int .i64 n.a, .int .i64 n.b, .int .i64 n.c] 53)) w.heap.size (.slice ao L.length co) L) := HO.out.kept (S := fun b => b = wr.heap.size) ((Kept.refl (fun b => b = wr.heap.size) _).alloc _) (fun b hb e => by have := (HO.out.lt b hb).2; omega)
            have HBA : Hid (Below w.heap.size w (wr.alloc (.cells #[.int .i64 n.op, .int .i64 n.w, .int .i64 n.k, .int .i64 n.a, .int .i64 n.b, .int .i64 n.c] 53))) := HB.out.trans (Kept.below (S := fun b => b = wr.heap.size) ((Kept.refl (fun b => b = wr.heap.size) _).alloc _) (fun b (e : b = wr.heap.size) => by omega) hBs)
            have hBs2 : w.heap.size ≤ (wr.alloc (.cells #[.int .i64 n.op, .int .i64 n.w, .int .i64 n.k, .int .i64 n.a, .int .i64 n.b, .int .i64 n.c] 53)).heap.size := HBA.out.size
            go_wp2_with (first | (go_at_call 51; refine (sQuant _ _).mono ?_; rintro e w' ⟨rfl, rfl⟩; rw [hq]) | (go_at_call 139; refine (sWordOk _ _ _).mono ?_; rintro e w' ⟨rfl, rfl⟩; skip) | (at_builtin; go_must (refine app_node _ rfl _ _ rfl w.heap.size (.slice ao L.length co) L n rfl _ rfl (by simp) HWA.out hBs2 hLl ?_; intro g5 cp5 w5 ho5 hk5 hg5; have HO5 : Hid (Ap2.Own w5 w.heap.size (.slice (some ⟨g5, 0, none⟩) (L.length + 1) cp5) (L ++ [n])) := ho5; have HB5 : Hid (Below w.heap.size w w5) := HBA.out.trans (hk5.below (fun b hb => (HWA.out.lt b hb).1) hBs2); clear ho5 hk5 hg5)))
            go_roundw
            case rel => exact ⟨i + 1, by omega, by go_num, by rw [HTK.out, HRP.out]; exact HO5.out, HBF.out, HB5.out⟩
            case measure => simp [intOf]; omega
          · skip
            have HE : Hid (replL l v k = none) := HNO.out (by simp only [badR]; simp_all)
            have HE2 : Hid (replO l v k = []) := by
              show _ = _
              unfold replO; rw [HE.out]; rfl
            clear HNEXT HNO HTK
            go_wp2_with (first | (go_at_call 51; refine (sQuant _ _).mono ?_; rintro e w' ⟨rfl, rfl⟩; rw [hq]) | (go_at_call 139; refine (sWordOk _ _ _).mono ?_; rintro e w' ⟨rfl, rfl⟩; skip))
            go_ret2
            rw [HE2.out, HE.out]
            exact ⟨⟨_, rfl, (own_nil _ _ _ (by simp) (by omega))⟩, ((HB.out.alloc hBs _).alloc (by simp; omega) _)⟩
      · have hlz : ¬ (i : Int) < (l.length : Int) := by omega
        have e2 : i = l.length := by omega
        have HE : Hid (replL l v k = some (l.map (replN v k))) := repl_some HT.out (fun j hj => HBAD.out j (by omega))
        have HE2 : Hid (replO l v k = (l.take i).map (replN v k)) := by
          show _ = _
          unfold replO; rw [HE.out, List.take_of_length_le (by omega)]; rfl
        have HO : Hid (Ap2.Own wr w.heap.size u8 ((l.take i).map (replN v k))) := ho
        obtain ⟨ao, co, rfl⟩ := ho.len
        clear ho e2
        generalize (l.take i).map (replN v k) = L at HO HE2 ⊢
        go_wp2
        go_ret2
        rw [HE2.out, HE.out]
        exact ⟨⟨_, rfl, HO.out⟩, HB.out⟩

end Go.Proofs.YtejgcchkhljnjaaGreat.Sv2

/- Draws of chapter 15: a term with some constants for variables. -/
namespace Go.Proofs.YtejgcchkhljnjaaGreat.Dcn1
open Go.RowKit
open Nd0 Nd3 Tm0 Vl4 Ic4 Dw0 Dw5 Dw8
open Ap2 (Own)
open Dr0 (Cur Only Bytes Off)
open Dr1 (once below)
open Dw6 (own_cap APost)
open Sv2 (sReplace)
set_option linter.unusedVariables false

theorem repl_len {l : List Nd} {v k : Int} (h : (replL l v k).isSome = true) : (replO l v k).length = l.length := by
  unfold replO
  unfold replL at h ⊢
  split at h
  · rename_i hc
    rw [if_pos hc]
    exact List.length_map ..
  · cases h

set_option maxRecDepth 100000 in
set_option maxHeartbeats 4000000 in
theorem constNodes (w : World) (b : Nat) (a : Option Addr) (len cap : Nat) (hc : Cur w b a len cap) (hlo : Low a len b) :
    Calls Tryz.prog 42 #[.pointer (some ⟨b, 0, none⟩)] w (APost b a len cap w) := by
  have HC0 : Hid (Cur w b a len cap) := hc
  have HLO : Hid (Low a len b) := hlo
  clear hc hlo
  go_enter Tryz.func42, Tryz.ntmps42
  go_wp2_with fail
  refine (openNodes _ b a len cap HC0.out HLO.out).mono ?_
  rintro e w1 ⟨g, c, L, rfl, hn, hbg, hgs, hcu, hk, h1, h2, h3⟩
  have HN1 : Hid (Nodes w1 (some ⟨g, 0, none⟩) L) := hn
  have HC1 : Hid (Cur w1 b a len cap) := hcu
  have HK1 : Hid (Kept (fun k => k = b) w w1) := hk
  have HBG : Hid (b < g ∧ g < w1.heap.size) := ⟨hbg, hgs⟩
  have HL : Hid (1 ≤ L.length ∧ L.length ≤ 81 ∧ L.length ≤ c) := ⟨h1, h2, h3⟩
  clear hn hcu hk hbg h1 h2 h3 hgs HC0
  go_wp2_with fail
  go_loopw [3, 4] (fun tv q wr => ∃ (k g c : Nat) (M : List Nd), k ≤ 3 ∧ q = .int .i64 (k : Int) ∧ tv = .slice (some ⟨g, 0, none⟩) M.length c ∧ Nodes wr (some ⟨g, 0, none⟩) M ∧ (b < g ∧ g < wr.heap.size) ∧ Cur wr b a len cap ∧ Kept (fun k => k = b) w wr ∧ (1 ≤ M.length ∧ M.length ≤ 81 ∧ M.length ≤ c)) (fun _ q _ => 3 - (intOf q).toNat)
  case atStart => exact ⟨0, g, c, L, by omega, rfl, rfl, HN1.out, HBG.out, HC1.out, HK1.out, HL.out⟩
  case round =>
    clear HN1 HC1 HK1 HBG HL
    obtain ⟨k, g, c, M, hk, rfl, rfl, hn, hbg, hcu, hkk, hml⟩ := hrel
    have HN : Hid (Nodes wr (some ⟨g, 0, none⟩) M) := hn
    have HC : Hid (Cur wr b a len cap) := hcu
    have HK : Hid (Kept (fun k => k = b) w wr) := hkk
    have HBG : Hid (b < g ∧ g < wr.heap.size) := hbg
    have HML : Hid (1 ≤ M.length ∧ M.length ≤ 81 ∧ M.length ≤ c) := hml
    clear hn hcu hkk hbg hml
    by_cases hk3 : k < 3
    · have hkz : (k : Int) < 3 := by omega
      go_wp2_with fail
      refine (below _ b a len cap 2 (by omega) (by omega) HC.out).mono ?_
      rintro e w2 ⟨⟨x, rfl, hx0, hx1⟩, hc2, ho2⟩
      have HN2 : Hid (Nodes w2 (some ⟨g, 0, none⟩) M) := HN.out.kept (only_kept ho2) (fun y hy => by cases hy; have := HBG.out; show ¬ g = b; omega)
      have HC2 : Hid (Cur w2 b a len cap) := hc2
      have HK2 : Hid (Kept (fun k => k = b) w w2) := HK.out.trans (only_kept ho2)
      have HG2 : Hid (b < g ∧ g < w2.heap.size) := ⟨HBG.out.1, Nat.lt_of_lt_of_le HBG.out.2 (only_kept ho2).size⟩
      clear hc2 ho2 HN HC HK HBG
      go_wp2_with fail
      refine (sReplace _ _ M c (k : Int) x HN2.out).mono ?_
      rintro e w3 ⟨⟨xv, rfl, ho3⟩, hb3⟩
      have HN3 : Hid (Nodes w3 (some ⟨g, 0, none⟩) M) := HN2.out.below hb3
      have HC3 : Hid (Cur w3 b a len cap) := cur_kept HC2.out (S := fun _ => False) (Kept.ofBelow hb3) (fun h => h) (.inr (fun _ _ h => h))
      have HK3 : Hid (Kept (fun k => k = b) w w3) := HK2.out.trans (Kept.ofBelow hb3)
      have HG3 : Hid (b < g ∧ g < w3.heap.size) := ⟨HG2.out.1, Nat.lt_of_lt_of_le HG2.out.2 hb3.size⟩
      cases hok : (replL M (k : Int) x).isSome
      · clear ho3 hb3 HN2 HC2 HK2 HG2 hok
        go_wp2_with fail
        go_roundw
        case rel => exact ⟨k + 1, g, c, M, by omega, by go_num, rfl, HN3.out, HG3.out, HC3.out, HK3.out, HML.out⟩
        case measure => simp [intOf]; omega
      · have hrl := repl_len hok
        obtain ⟨U, hU⟩ : ∃ U, U = replO M (k : Int) x := ⟨_, rfl⟩
        rw [← hU] at ho3 hrl
        obtain ⟨g4, c4, hxv, hB4, hg4⟩ : ∃ g4 c4, xv = .slice (some ⟨g4, 0, none⟩) U.length c4 ∧ w2.heap.size ≤ g4 ∧ g4 < w3.heap.size := by
          rcases ho3.2 with ⟨rfl, h0⟩ | ⟨g9, cap9, cur, rfl, hb9, hg9, _⟩
          · have := HML.out.1; omega
          · exact ⟨g9, cap9, rfl, hb9, (Array.getElem?_eq_some_iff.1 hg9).1⟩
        subst hxv
        have hcap := own_cap ho3
        obtain ⟨a5, c5, hv5, hw5⟩ := ho3.form
        simp only [Value.slice.injEq] at hv5
        have hnu : Nodes w3 (some ⟨g4, 0, none⟩) U := by rw [hv5.1]; exact hw5.nodes
        have HNU : Hid (Nodes w3 (some ⟨g4, 0, none⟩) U) := hnu
        have HGU : Hid (b < g4 ∧ g4 < w3.heap.size) := ⟨by have := HG2.out; omega, hg4⟩
        have HUL : Hid (1 ≤ U.length ∧ U.length ≤ 81 ∧ U.length ≤ c4) := ⟨by have := HML.out; omega, by have := HML.out; omega, hcap⟩
        clear ho3 hb3 HN2 HC2 HK2 HG2 hok hrl hU hB4 hg4 hcap hv5 hw5 hnu
        go_wp2_with fail
        refine (once _ b a len cap 2 (by omega) (by omega) HC3.out).mono ?_
        rintro e w4 ⟨⟨y, rfl⟩, hc4, ho4⟩
        have HC4 : Hid (Cur w4 b a len cap) := hc4
        have HK4 : Hid (Kept (fun k => k = b) w w4) := HK3.out.trans (only_kept ho4)
        have hsz := (only_kept ho4).size
        cases y
        · have HN4 : Hid (Nodes w4 (some ⟨g, 0, none⟩) M) := HN3.out.kept (only_kept ho4) (fun y hy => by cases hy; have := HG3.out; show ¬ g = b; omega)
          have HG4 : Hid (b < g ∧ g < w4.heap.size) := ⟨HG3.out.1, Nat.lt_of_lt_of_le HG3.out.2 hsz⟩
          clear hc4 ho4 hsz
          go_wp2_with fail
          go_roundw
          case rel => exact ⟨k + 1, g, c, M, by omega, by go_num, rfl, HN4.out, HG4.out, HC4.out, HK4.out, HML.out⟩
          case measure => simp [intOf]; omega
        · have HN4 : Hid (Nodes w4 (some ⟨g4, 0, none⟩) U) := HNU.out.kept (only_kept ho4) (fun y hy => by cases hy; have := HGU.out; show ¬ g4 = b; omega)
          have HG4 : Hid (b < g4 ∧ g4 < w4.heap.size) := ⟨HGU.out.1, Nat.lt_of_lt_of_le HGU.out.2 hsz⟩
          clear hc4 ho4 hsz
          go_wp2_with fail
          go_roundw
          case rel => exact ⟨k + 1, g4, c4, U, by omega, by go_num, rfl, HN4.out, HG4.out, HC4.out, HK4.out, HUL.out⟩
          case measure => simp [intOf]; omega
    · have e : k = 3 := by omega
      subst e
      go_wp2_with fail
      go_ret
      exact ⟨g, c, M, rfl, HN.out, HBG.out.1, HBG.out.2, HC.out, HK.out, HML.out.1, HML.out.2.1, HML.out.2.2⟩

end Go.Proofs.YtejgcchkhljnjaaGreat.Dcn1

/- Walks of what the laws themselves call: a byte of the code, whether the code is too great. -/
namespace Go.Proofs.YtejgcchkhljnjaaGreat.Lw4
open Go.RowKit
open Dr0 Dr1
open Ws1 (ret_int ret_bool)
set_option linter.unusedVariables false

set_option maxHeartbeats 400000 in
theorem lbig (w : World) (a : Option Addr) (len cap : Nat) (b : Bool) (hb : b = decide (1048576 < len)) :
    Calls Tryz.prog 10 #[.slice a len cap] w fun e w' => e = .returned (.bool b) ∧ w' = w := by
  subst hb
  go_enter Tryz.func10, Tryz.ntmps10
  go_wp2
  go_ret
  exact ⟨ret_bool (by rw [Bool.eq_iff_iff]; simp; omega), rfl⟩

end Go.Proofs.YtejgcchkhljnjaaGreat.Lw4

/- A byte of a law's code: the same whenever it is asked. -/
namespace Go.Proofs.YtejgcchkhljnjaaGreat.Lat
open Go.RowKit
open Nd0
open Dr0 (Bytes)
open Ws1 (ret_int ret_bool)
set_option linter.unusedVariables false

theorem lat3 (w : World) (a : Option Addr) (len cap : Nat) (i : Int) (h0 : 0 ≤ i) (hk : i ≤ 1000) (hb : Bytes w a len) (hs : len ≤ 1048576) :
    ∃ x : Int, 0 ≤ x ∧ x ≤ 255 ∧ ∀ W : World, Below w.heap.size w W → Calls Tryz.prog 15 #[.slice a len cap, .int .i64 i] W fun e w' => e = .returned (.int .i64 x) ∧ w' = W := by
  obtain ⟨k, rfl⟩ := Int.eq_ofNat_of_zero_le h0
  by_cases hlt : k < len
  · rcases hb.2 with h0 | ⟨xb, xo, rfl, hcell⟩
    · omega
    obtain ⟨v, hv0, hv1, hv⟩ := hcell k hlt
    refine ⟨v, by omega, by omega, fun W hW => ?_⟩
    have hv2 : W.cell? ⟨xb, xo + k, none⟩ = some (.int .u8 v) := (hW.cell (p := ⟨xb, xo + k, none⟩) (lt_of_cell hv)).trans hv
    clear hcell hb hW hv
    go_enter Tryz.func15, Tryz.ntmps15
    go_wp2
    go_ret
    exact ⟨ret_int (by omega), rfl⟩
  · refine ⟨((k : Int) * 7 + (len : Int)) % 256, by omega, by omega, fun W hW => ?_⟩
    clear hb hW
    go_enter Tryz.func15, Tryz.ntmps15
    go_wp2
    go_ret
    exact ⟨rfl, rfl⟩

end Go.Proofs.YtejgcchkhljnjaaGreat.Lat

/- The walk of the laws' comparison of lists of nodes. -/
namespace Go.Proofs.YtejgcchkhljnjaaGreat.Lw5
open Go.RowKit
open Nd0
set_option linter.unusedVariables false

set_option maxHeartbeats 1000000 in
theorem sameNodes (w : World) (a a' : Option Addr) (l : List Nd) (c c' : Nat) (h : Nodes w a l) (h' : Nodes w a' l) :
    Calls Tryz.prog 14 #[.slice a l.length c, .slice a' l.length c'] w fun e w' => e = .returned (.bool true) ∧ ∃ m, w' = w.drewN m := by
  have H : Hid (Nodes w a l) := h
  have H' : Hid (Nodes w a' l) := h'
  have hm := h.1
  unfold maxLen at hm
  clear h h'
  go_enter Tryz.func14, Tryz.ntmps14
  go_wp2
  go_loopw [5] (fun i wr => ∃ k : Nat, k ≤ l.length ∧ i = .int .i64 k ∧ ∃ m, wr = w.drewN m) (fun i _ => l.length - (intOf i).toNat)
  case atStart => exact ⟨0, Nat.zero_le _, rfl, 0, rfl⟩
  case round =>
    obtain ⟨k, hk, rfl, m, rfl⟩ := hrel
    by_cases hlt : k < l.length
    · have hlz : (k : Int) < (l.length : Int) := by omega
      rcases H.out.2 with h0 | ⟨xb, xo, rfl, hc⟩
      · omega
      rcases H'.out.2 with h0 | ⟨yb, yo, rfl, hc'⟩
      · omega
      obtain ⟨p0, p1, p2, p3, p4, p5⟩ := hc k hlt
      obtain ⟨q0, q1, q2, q3, q4, q5⟩ := hc' k hlt
      clear hc hc'
      generalize l[k] = x at p0 p1 p2 p3 p4 p5 q0 q1 q2 q3 q4 q5
      obtain ⟨x0, x1, x2, x3, x4, x5⟩ := x
      simp only at p0 p1 p2 p3 p4 p5 q0 q1 q2 q3 q4 q5
      go_wp2
      go_quiet (fail)
      go_wp2
      go_roundw
      case rel => exact ⟨k + 1, by omega, by go_num, _, rfl⟩
      case measure => simp [intOf]; omega
    · go_wp2
      go_ret
      exact ⟨rfl, _, rfl⟩

end Go.Proofs.YtejgcchkhljnjaaGreat.Lw5
