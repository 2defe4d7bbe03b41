/- The walk of the model's Back. -/
import Derived.Test.YtdmogjhabladcaaFm2
import Derived.Test.YtdmogjhabladcaaAp8
namespace Go.Proofs.Ytdmogjhabladcaa.Fm3
open Go.RowKit
open Nd0 Nd3 Qa0 Ap2 Ap7 Ap8 Fr0
open Fm1 (quAt below_drewN)
open Fm2 (sFrontOk)
set_option linter.unusedVariables false

def BPost (w : World) (q : List Qu) (l : List Nd) (e : Ending) (w' : World) : Prop :=
  (∃ a' c', e = .returned (.tuple #[.slice a' (backL q l).length c', .bool (backB q l)]) ∧ WNodes w' w.heap.size a' (backL q l) ∧ (backL q l).length ≤ c') ∧ Below w.heap.size w w'
theorem bpost_no {w W : World} {q : List Qu} {l : List Nd} (h : backB q l = false) (hB : Below w.heap.size w W) (g : Nat) : BPost w q l (.returned (.tuple #[.slice (some ⟨g, 0, none⟩) 0 0, .bool false])) (W.alloc (.cells #[] 51)) := by
  have e : backL q l = [] := by unfold backL; rw [h]; rfl
  refine ⟨⟨some ⟨g, 0, none⟩, 0, ?_, ?_, ?_⟩, hB.alloc hB.size _⟩
  · rw [e, h]; rfl
  · rw [e]; exact ⟨Nat.zero_le _, .inl rfl⟩
  · rw [e]; exact Nat.zero_le _
theorem bpost_yes {w W : World} {q : List Qu} {l : List Nd} {v : Value} (h : backB q l = true) (hB : Below w.heap.size w W) (ho : Own W w.heap.size v (backTo q l q.length)) : BPost w q l (.returned (.tuple #[v, .bool true])) W := by
  have e : backL q l = backTo q l q.length := by unfold backL; rw [h]; rfl
  obtain ⟨a, c, rfl, hw⟩ := ho.form
  refine ⟨⟨a, c, ?_, ?_, ?_⟩, hB⟩
  · rw [e, h]
  · rw [e]; exact hw
  · rw [e]; exact (own_cap ho).2

set_option maxRecDepth 100000 in
set_option maxHeartbeats 8000000 in
theorem sBack (w : World) (aq a : Option Addr) (q : List Qu) (l : List Nd) (cq c : Nat) (hQ : Qus w aq q) (hN : Nodes w a l) (hl : q.length ≤ 1048576) (hll : l.length ≤ 1048576) :
    Calls Try.prog 22 #[.slice aq q.length cq, .slice a l.length c] w (BPost w q l) := by
  have HN : Hid (Nodes w a l) := hN
  have HQS : Hid (Qus w aq q) := hQ
  clear hN hQ
  go_enter Try.func22, Try.ntmps22
  go_wp2_with fail
  refine (sFrontOk _ aq a q l cq c HQS.out HN.out hl).mono ?_
  rintro e w1 ⟨rfl, hb1⟩
  have HB1 : Hid (Below w.heap.size w w1) := hb1
  clear hb1
  cases hf : frontOkB q l
  · have HF : Hid (backB q l = false) := by show _ = _; unfold backB; rw [hf]; rfl
    go_wp2
    go_ret2
    exact bpost_no HF.out HB1.out _
  · by_cases h80 : l.length + q.length ≤ 80
    rotate_left
    · have h81 : 80 < (l.length : Int) + (q.length : Int) := by omega
      have HF : Hid (backB q l = false) := by show _ = _; unfold backB; rw [hf, decide_eq_false h80]; rfl
      go_wp2
      go_ret2
      exact bpost_no HF.out HB1.out _
    · have h81 : ¬ 80 < (l.length : Int) + (q.length : Int) := by omega
      have HF : Hid (backB q l = true) := by show _ = _; unfold backB; rw [hf, decide_eq_true h80]; rfl
      have hl1 : 1 ≤ l.length := (Tm0.term_len (fo_of hf).1).1
      clear hf
      rcases (HN.out.below HB1.out).2 with h0 | ⟨xb, xo, rfl, hcn⟩
      · omega
      have hwal : Below w1.heap.size w1 (w1.alloc (.cells #[] 51)) := (Below.refl _ _).alloc (Nat.le_refl _) _
      have HHY : Hid (∀ i (h : i < l.length), NodeAt (w1.alloc (.cells #[] 51)) xb (xo + i * 6) l[i]) := fun i hi => (hcn i hi).below hwal (hcn i hi).lt
      have HOL : Hid (Own (w1.alloc (.cells #[] 51)) w.heap.size (.slice (some ⟨w1.heap.size, 0, none⟩) 0 0) []) := Own.lit w1 _ HB1.out.size
      have hs1 : w.heap.size ≤ w1.heap.size := HB1.out.size
      clear hcn
      go_wp2_with (at_builtin; go_must (refine app_nodes _ rfl _ _ rfl w.heap.size (.slice (some ⟨w1.heap.size, 0, none⟩) 0 0) [] l xb xo c rfl rfl HHY.out hl1 HOL.out (by simp; omega) (by simp; omega) ?_; intro g4 cp4 w4 ho4 hk4 hg4; simp only [List.length_nil, Nat.zero_add, List.nil_append] at ho4; have HO4 : Hid (Own w4 w.heap.size (.slice (some ⟨g4, 0, none⟩) l.length cp4) l) := ho4; have HB4 : Hid (Below w.heap.size w w4) := HB1.out.trans (((hwal.trans (hk4.below (fun k hk => by cases hk; exact Nat.le_refl _) (by simp)))).mono HB1.out.size); clear ho4 hk4 hg4 hwal))
      go_loopw [6, 7] (fun v i wr => ∃ j k : Nat, j + k = q.length ∧ i = .int .i64 ((j : Int) - 1) ∧ Own wr w.heap.size v (backTo q l k) ∧ Below w.heap.size w wr) (fun _ i _ => (intOf i + 1).toNat)
      case atStart => exact ⟨q.length, 0, rfl, rfl, HO4.out, HB4.out⟩
      case round =>
        clear HO4 HB4 HHY HOL
        obtain ⟨j, k, hjk, rfl, ho, hb⟩ := hrel
        have HB : Hid (Below w.heap.size w wr) := hb
        have hbs : w.heap.size ≤ wr.heap.size := hb.size
        have HRL : Hid ((backTo q l k).length = l.length + k) := backTo_length q l k
        have hrb : (backTo q l k).length ≤ 80 := by have := HRL.out; omega
        have hra : 1 ≤ (backTo q l k).length := by have := HRL.out; omega
        obtain ⟨av, cv, hv, _⟩ := ho.form
        subst hv
        have HO : Hid (Own wr w.heap.size (.slice av (backTo q l k).length cv) (backTo q l k)) := ho
        clear ho hb
        cases j with
        | zero =>
          have HE : Hid (k = q.length) := by show _ = _; omega
          have HO9 : Hid (Own wr w.heap.size (.slice av (backTo q l k).length cv) (backTo q l q.length)) := by rw [← HE.out]; exact HO.out
          have hz : ¬ (0 : Int) ≤ ((0 : Nat) : Int) - 1 := by omega
          go_wp2
          go_ret2
          exact bpost_yes HF.out HB.out HO9.out
        | succ j =>
          have ej : ((j + 1 : Nat) : Int) - 1 = (j : Int) := by omega
          rw [ej]
          have hlz : (j : Int) < (q.length : Int) := by omega
          have hj0 : (0 : Int) ≤ (j : Int) := by omega
          obtain ⟨b, o, rfl, hc⟩ := quAt HQS.out (show j < q.length by omega)
          obtain ⟨p0', p1, p2⟩ := hc j (by omega)
          have hbw : b < w.heap.size := lt_of_cell p0'
          have p0 : wr.cell? ⟨b, o + j * 3, none⟩ = some (.bool (qth q j).all) := by rw [HB.out.cell hbw]; exact p0'
          clear hc ej p0'
          have HBK : Hid (backTo q l (k + 1) = backTo q l k ++ [qNode (qth q j) ((backTo q l k).length - 1)]) := by
            show _ = _
            have e : q.length - 1 - k = j := by omega
            show backTo q l k ++ [qNode (qth q (q.length - 1 - k)) _] = _
            rw [e]
          generalize backTo q l k = R at HO HBK HRL hra hrb ⊢
          obtain ⟨x, hx⟩ : ∃ x, x = qth q j := ⟨_, rfl⟩
          rw [← hx] at p0 p1 p2 HBK
          clear hx
          obtain ⟨al, vr, bt⟩ := x
          simp only at p0 p1 p2
          have hR1 : (1 : Int) ≤ (R.length : Int) := by omega
          have hRw : IntKind.i64.wrap ((R.length : Int) - 1) = (R.length : Int) - 1 := by rw [IntKind.wrap_i64] <;> omega
          cases al
          · have HBK2 : Hid (backTo q l (k + 1) = R ++ [⟨20, 1, vr, (R.length : Int) - 1, bt, 0⟩]) := HBK.out
            clear HBK
            go_wp2_with fail
            refine wp_region_held_drew (S := fun w' => Below w.heap.size w w') (by kernel_rfl) (HB.out.drew) (fun hHeld => ?_)
            refine wpAnyH_take (i := 0) (v := ?_) rfl (by kernel_rfl) (by kernel_rfl) (by kernel_rfl) (fun _ _ _ h => h) (Or.inl ⟨by rfl, ?_⟩) hHeld ?_
            rotate_left
            · intro v9 hS9
              try dsimp only at hS9
              go_simp
              try with_reducible rfl
            try simp only [Act.put, List.setIfInBounds_toArray, List.set_cons_zero, List.set_cons_succ, List.getElem_toArray, List.getElem_cons_zero]
            refine wpAnyH_take (i := 1) (v := ?_) rfl (by kernel_rfl) (by kernel_rfl) (by kernel_rfl) (fun _ _ _ h => h) (Or.inl ⟨by rfl, ?_⟩) hHeld ?_
            rotate_left
            · intro v9 hS9
              try dsimp only at hS9
              go_simp
              try with_reducible rfl
            try simp only [Act.put, List.setIfInBounds_toArray, List.set_cons_zero, List.set_cons_succ, List.getElem_toArray, List.getElem_cons_zero, List.getElem_cons_succ]
            refine wpAnyH_take (i := 2) (v := ?_) rfl (by kernel_rfl) (by kernel_rfl) (by kernel_rfl) (fun _ _ _ h => h) (Or.inl ⟨by rfl, ?_⟩) hHeld ?_
            rotate_left
            · intro v9 hS9
              try dsimp only at hS9
              go_simp
              try with_reducible rfl
            try simp only [Act.put, List.setIfInBounds_toArray, List.set_cons_zero, List.set_cons_succ, List.getElem_toArray, List.getElem_cons_zero, List.getElem_cons_succ]
            refine wpAnyH_take (i := 3) (v := ?_) rfl (by kernel_rfl) (by kernel_rfl) (by kernel_rfl) (fun _ _ _ h => h) (Or.inl ⟨by rfl, ?_⟩) hHeld ?_
            rotate_left
            · intro v9 hS9
              try dsimp only at hS9
              go_simp
              try with_reducible rfl
            try simp only [Act.put, List.setIfInBounds_toArray, List.set_cons_zero, List.set_cons_succ, List.getElem_toArray, List.getElem_cons_zero, List.getElem_cons_succ]
            refine wpAnyH_take (i := 4) (v := ?_) rfl (by kernel_rfl) (by kernel_rfl) (by kernel_rfl) (fun _ _ _ h => h) (Or.inl ⟨by rfl, ?_⟩) hHeld ?_
            rotate_left
            · intro v9 hS9
              try dsimp only at hS9
              go_simp
              try with_reducible rfl
            try simp only [Act.put, List.setIfInBounds_toArray, List.set_cons_zero, List.set_cons_succ, List.getElem_toArray, List.getElem_cons_zero, List.getElem_cons_succ]
            refine wpAnyH_take (i := 5) (v := ?_) rfl (by kernel_rfl) (by kernel_rfl) (by kernel_rfl) (fun _ _ _ h => h) (Or.inl ⟨by rfl, ?_⟩) hHeld ?_
            rotate_left
            · intro v9 hS9
              try dsimp only at hS9
              go_simp
              try with_reducible rfl
            try simp only [Act.put, List.setIfInBounds_toArray, List.set_cons_zero, List.set_cons_succ, List.getElem_toArray, List.getElem_cons_zero, List.getElem_cons_succ]
            refine wpAnyH_take (i := 6) (v := ?_) rfl (by kernel_rfl) (by kernel_rfl) (by kernel_rfl) (fun _ _ _ h => h) (Or.inl ⟨by rfl, ?_⟩) hHeld ?_
            rotate_left
            · intro v9 hS9
              try dsimp only at hS9
              have q1 : v9.cell? ⟨b, o + j * 3 + 1, none⟩ = some (.int .i64 vr) := by rw [hS9.cell hbw]; exact p1
              go_simp
              try with_reducible rfl
            try simp only [Act.put, List.setIfInBounds_toArray, List.set_cons_zero, List.set_cons_succ, List.getElem_toArray, List.getElem_cons_zero, List.getElem_cons_succ]
            refine wpAnyH_take (i := 7) (v := ?_) rfl (by kernel_rfl) (by kernel_rfl) (by kernel_rfl) (fun _ _ _ h => h) (Or.inl ⟨by rfl, ?_⟩) hHeld ?_
            rotate_left
            · intro v9 hS9
              try dsimp only at hS9
              go_simp
              try with_reducible rfl
            try simp only [Act.put, List.setIfInBounds_toArray, List.set_cons_zero, List.set_cons_succ, List.getElem_toArray, List.getElem_cons_zero, List.getElem_cons_succ]
            refine wpAnyH_take (i := 8) (v := ?_) rfl (by kernel_rfl) (by kernel_rfl) (by kernel_rfl) (fun _ _ _ h => h) (Or.inl ⟨by rfl, ?_⟩) hHeld ?_
            rotate_left
            · intro v9 hS9
              try dsimp only at hS9
              go_simp
              try with_reducible rfl
            try simp only [Act.put, List.setIfInBounds_toArray, List.set_cons_zero, List.set_cons_succ, List.getElem_toArray, List.getElem_cons_zero, List.getElem_cons_succ]
            refine wpAnyH_take (i := 9) (v := ?_) rfl (by kernel_rfl) (by kernel_rfl) (by kernel_rfl) (fun _ _ _ h => h) (Or.inl ⟨by rfl, ?_⟩) hHeld ?_
            rotate_left
            · intro v9 hS9
              try dsimp only at hS9
              go_simp
              try with_reducible rfl
            try simp only [Act.put, List.setIfInBounds_toArray, List.set_cons_zero, List.set_cons_succ, List.getElem_toArray, List.getElem_cons_zero, List.getElem_cons_succ]
            refine wpAnyH_take (i := 10) (v := ?_) rfl (by kernel_rfl) (by kernel_rfl) (by kernel_rfl) (fun _ _ _ h => h) (Or.inl ⟨by rfl, ?_⟩) hHeld ?_
            rotate_left
            · intro v9 hS9
              try dsimp only at hS9
              go_simp
              try with_reducible rfl
            try simp only [Act.put, List.setIfInBounds_toArray, List.set_cons_zero, List.set_cons_succ, List.getElem_toArray, List.getElem_cons_zero, List.getElem_cons_succ]
            refine wpAnyH_take (i := 11) (v := ?_) rfl (by kernel_rfl) (by kernel_rfl) (by kernel_rfl) (fun _ _ _ h => h) (Or.inl ⟨by rfl, ?_⟩) hHeld ?_
            rotate_left
            · intro v9 hS9
              try dsimp only at hS9
              go_simp
              try with_reducible rfl
            try simp only [Act.put, List.setIfInBounds_toArray, List.set_cons_zero, List.set_cons_succ, List.getElem_toArray, List.getElem_cons_zero, List.getElem_cons_succ]
            refine wpAnyH_take (i := 12) (v := ?_) rfl (by kernel_rfl) (by kernel_rfl) (by kernel_rfl) (fun _ _ _ h => h) (Or.inl ⟨by rfl, ?_⟩) hHeld ?_
            rotate_left
            · intro v9 hS9
              try dsimp only at hS9
              go_simp
              try with_reducible rfl
            try simp only [Act.put, List.setIfInBounds_toArray, List.set_cons_zero, List.set_cons_succ, List.getElem_toArray, List.getElem_cons_zero, List.getElem_cons_succ]
            refine wpAnyH_take (i := 13) (v := ?_) rfl (by kernel_rfl) (by kernel_rfl) (by kernel_rfl) (fun _ _ _ h => h) (Or.inl ⟨by rfl, ?_⟩) hHeld ?_
            rotate_left
            · intro v9 hS9
              try dsimp only at hS9
              go_simp
              try with_reducible rfl
            try simp only [Act.put, List.setIfInBounds_toArray, List.set_cons_zero, List.set_cons_succ, List.getElem_toArray, List.getElem_cons_zero, List.getElem_cons_succ]
            refine wpAnyH_take (i := 14) (v := ?_) rfl (by kernel_rfl) (by kernel_rfl) (by kernel_rfl) (fun _ _ _ h => h) (Or.inl ⟨by rfl, ?_⟩) hHeld ?_
            rotate_left
            · intro v9 hS9
              try dsimp only at hS9
              have q2 : v9.cell? ⟨b, o + j * 3 + 2, none⟩ = some (.int .i64 bt) := by rw [hS9.cell hbw]; exact p2
              go_simp
              try with_reducible rfl
            try simp only [Act.put, List.setIfInBounds_toArray, List.set_cons_zero, List.set_cons_succ, List.getElem_toArray, List.getElem_cons_zero, List.getElem_cons_succ]
            refine wpAnyH_take (i := 15) (v := ?_) rfl (by kernel_rfl) (by kernel_rfl) (by kernel_rfl) (fun _ _ _ h => h) (Or.inl ⟨by rfl, ?_⟩) hHeld ?_
            rotate_left
            · intro v9 hS9
              try dsimp only at hS9
              go_simp
              try with_reducible rfl
            try simp only [Act.put, List.setIfInBounds_toArray, List.set_cons_zero, List.set_cons_succ, List.getElem_toArray, List.getElem_cons_zero, List.getElem_cons_succ]
            refine wpAnyH_ready (rs := [16]) (by kernel_rfl) (by simp) ?_
            refine (AllReadyH.cons rfl (fun K hK => ?_) AllReadyH.nil)
            ·
              go_simp
              refine hK.out _ _ (hHeld.alloc hHeld.size _) (fun hNext => ?_)
              clear hK K hHeld
              have hHeld := hNext
              clear hNext
              refine wpAnyH_ready (rs := [17]) (by kernel_rfl) (by simp) ?_
              refine (AllReadyH.cons rfl (fun K hK => ?_) AllReadyH.nil)
              ·
                refine step_node _ rfl _ _ rfl w.heap.size (.slice av R.length cv) R ⟨20, 1, vr, (R.length : Int) - 1, bt, 0⟩ rfl _ rfl rfl (HO.out.kept (S := fun _ => False) ((Kept.refl _ _).drew) (fun _ _ h => h)) (by first | exact hbs | simpa using hbs) (by omega) ?_
                intro g5 cp5 w5 ho5 hk5 hg5
                have HO5 : Hid (Own w5 w.heap.size (.slice (some ⟨g5, 0, none⟩) (R.length + 1) cp5) (R ++ [⟨20, 1, vr, (R.length : Int) - 1, bt, 0⟩])) := ho5
                have HK : Below w.heap.size w w5 := HB.out.drew.trans (hk5.below (fun k hk => (HO.out.lt k hk).1) hbs)
                have HB5 : Hid (Below w.heap.size w w5) := HK
                refine hK.out _ _ (HK) (fun hNext => ?_)
                clear hK K hHeld
                have hHeld := hNext
                clear hNext
                clear HK ho5 hk5 hg5
                try simp only [Act.put, List.setIfInBounds_toArray, List.set_cons_zero, List.set_cons_succ, List.getElem_toArray, List.getElem_cons_zero, List.getElem_cons_succ]
                refine wpAnyH_take (i := 18) (v := ?_) rfl (by kernel_rfl) (by kernel_rfl) (by kernel_rfl) (fun _ _ _ h => h) (Or.inl ⟨by rfl, ?_⟩) hHeld ?_
                rotate_left
                · intro v9 hS9
                  try dsimp only at hS9
                  go_simp
                  try with_reducible rfl
                try simp only [Act.put, List.setIfInBounds_toArray, List.set_cons_zero, List.set_cons_succ, List.getElem_toArray, List.getElem_cons_zero, List.getElem_cons_succ]
                refine wpAnyH_done (by kernel_rfl) ?_ _
                go_wp2
                go_roundw
                case rel => exact ⟨j, k + 1, by omega, by go_num, by rw [HBK2.out]; exact HO5.out, HB5.out⟩
                case measure => simp [intOf]

          · have HBK2 : Hid (backTo q l (k + 1) = R ++ [⟨19, 1, vr, (R.length : Int) - 1, bt, 0⟩]) := HBK.out
            clear HBK
            go_wp2_with fail
            refine wp_region_held_drew (S := fun w' => Below w.heap.size w w') (by kernel_rfl) (HB.out.drew) (fun hHeld => ?_)
            refine wpAnyH_take (i := 0) (v := ?_) rfl (by kernel_rfl) (by kernel_rfl) (by kernel_rfl) (fun _ _ _ h => h) (Or.inl ⟨by rfl, ?_⟩) hHeld ?_
            rotate_left
            · intro v9 hS9
              try dsimp only at hS9
              go_simp
              try with_reducible rfl
            try simp only [Act.put, List.setIfInBounds_toArray, List.set_cons_zero, List.set_cons_succ, List.getElem_toArray, List.getElem_cons_zero]
            refine wpAnyH_take (i := 1) (v := ?_) rfl (by kernel_rfl) (by kernel_rfl) (by kernel_rfl) (fun _ _ _ h => h) (Or.inl ⟨by rfl, ?_⟩) hHeld ?_
            rotate_left
            · intro v9 hS9
              try dsimp only at hS9
              go_simp
              try with_reducible rfl
            try simp only [Act.put, List.setIfInBounds_toArray, List.set_cons_zero, List.set_cons_succ, List.getElem_toArray, List.getElem_cons_zero, List.getElem_cons_succ]
            refine wpAnyH_take (i := 2) (v := ?_) rfl (by kernel_rfl) (by kernel_rfl) (by kernel_rfl) (fun _ _ _ h => h) (Or.inl ⟨by rfl, ?_⟩) hHeld ?_
            rotate_left
            · intro v9 hS9
              try dsimp only at hS9
              go_simp
              try with_reducible rfl
            try simp only [Act.put, List.setIfInBounds_toArray, List.set_cons_zero, List.set_cons_succ, List.getElem_toArray, List.getElem_cons_zero, List.getElem_cons_succ]
            refine wpAnyH_take (i := 3) (v := ?_) rfl (by kernel_rfl) (by kernel_rfl) (by kernel_rfl) (fun _ _ _ h => h) (Or.inl ⟨by rfl, ?_⟩) hHeld ?_
            rotate_left
            · intro v9 hS9
              try dsimp only at hS9
              go_simp
              try with_reducible rfl
            try simp only [Act.put, List.setIfInBounds_toArray, List.set_cons_zero, List.set_cons_succ, List.getElem_toArray, List.getElem_cons_zero, List.getElem_cons_succ]
            refine wpAnyH_take (i := 4) (v := ?_) rfl (by kernel_rfl) (by kernel_rfl) (by kernel_rfl) (fun _ _ _ h => h) (Or.inl ⟨by rfl, ?_⟩) hHeld ?_
            rotate_left
            · intro v9 hS9
              try dsimp only at hS9
              go_simp
              try with_reducible rfl
            try simp only [Act.put, List.setIfInBounds_toArray, List.set_cons_zero, List.set_cons_succ, List.getElem_toArray, List.getElem_cons_zero, List.getElem_cons_succ]
            refine wpAnyH_take (i := 5) (v := ?_) rfl (by kernel_rfl) (by kernel_rfl) (by kernel_rfl) (fun _ _ _ h => h) (Or.inl ⟨by rfl, ?_⟩) hHeld ?_
            rotate_left
            · intro v9 hS9
              try dsimp only at hS9
              go_simp
              try with_reducible rfl
            try simp only [Act.put, List.setIfInBounds_toArray, List.set_cons_zero, List.set_cons_succ, List.getElem_toArray, List.getElem_cons_zero, List.getElem_cons_succ]
            refine wpAnyH_take (i := 6) (v := ?_) rfl (by kernel_rfl) (by kernel_rfl) (by kernel_rfl) (fun _ _ _ h => h) (Or.inl ⟨by rfl, ?_⟩) hHeld ?_
            rotate_left
            · intro v9 hS9
              try dsimp only at hS9
              have q1 : v9.cell? ⟨b, o + j * 3 + 1, none⟩ = some (.int .i64 vr) := by rw [hS9.cell hbw]; exact p1
              go_simp
              try with_reducible rfl
            try simp only [Act.put, List.setIfInBounds_toArray, List.set_cons_zero, List.set_cons_succ, List.getElem_toArray, List.getElem_cons_zero, List.getElem_cons_succ]
            refine wpAnyH_take (i := 7) (v := ?_) rfl (by kernel_rfl) (by kernel_rfl) (by kernel_rfl) (fun _ _ _ h => h) (Or.inl ⟨by rfl, ?_⟩) hHeld ?_
            rotate_left
            · intro v9 hS9
              try dsimp only at hS9
              go_simp
              try with_reducible rfl
            try simp only [Act.put, List.setIfInBounds_toArray, List.set_cons_zero, List.set_cons_succ, List.getElem_toArray, List.getElem_cons_zero, List.getElem_cons_succ]
            refine wpAnyH_take (i := 8) (v := ?_) rfl (by kernel_rfl) (by kernel_rfl) (by kernel_rfl) (fun _ _ _ h => h) (Or.inl ⟨by rfl, ?_⟩) hHeld ?_
            rotate_left
            · intro v9 hS9
              try dsimp only at hS9
              go_simp
              try with_reducible rfl
            try simp only [Act.put, List.setIfInBounds_toArray, List.set_cons_zero, List.set_cons_succ, List.getElem_toArray, List.getElem_cons_zero, List.getElem_cons_succ]
            refine wpAnyH_take (i := 9) (v := ?_) rfl (by kernel_rfl) (by kernel_rfl) (by kernel_rfl) (fun _ _ _ h => h) (Or.inl ⟨by rfl, ?_⟩) hHeld ?_
            rotate_left
            · intro v9 hS9
              try dsimp only at hS9
              go_simp
              try with_reducible rfl
            try simp only [Act.put, List.setIfInBounds_toArray, List.set_cons_zero, List.set_cons_succ, List.getElem_toArray, List.getElem_cons_zero, List.getElem_cons_succ]
            refine wpAnyH_take (i := 10) (v := ?_) rfl (by kernel_rfl) (by kernel_rfl) (by kernel_rfl) (fun _ _ _ h => h) (Or.inl ⟨by rfl, ?_⟩) hHeld ?_
            rotate_left
            · intro v9 hS9
              try dsimp only at hS9
              go_simp
              try with_reducible rfl
            try simp only [Act.put, List.setIfInBounds_toArray, List.set_cons_zero, List.set_cons_succ, List.getElem_toArray, List.getElem_cons_zero, List.getElem_cons_succ]
            refine wpAnyH_take (i := 11) (v := ?_) rfl (by kernel_rfl) (by kernel_rfl) (by kernel_rfl) (fun _ _ _ h => h) (Or.inl ⟨by rfl, ?_⟩) hHeld ?_
            rotate_left
            · intro v9 hS9
              try dsimp only at hS9
              go_simp
              try with_reducible rfl
            try simp only [Act.put, List.setIfInBounds_toArray, List.set_cons_zero, List.set_cons_succ, List.getElem_toArray, List.getElem_cons_zero, List.getElem_cons_succ]
            refine wpAnyH_take (i := 12) (v := ?_) rfl (by kernel_rfl) (by kernel_rfl) (by kernel_rfl) (fun _ _ _ h => h) (Or.inl ⟨by rfl, ?_⟩) hHeld ?_
            rotate_left
            · intro v9 hS9
              try dsimp only at hS9
              go_simp
              try with_reducible rfl
            try simp only [Act.put, List.setIfInBounds_toArray, List.set_cons_zero, List.set_cons_succ, List.getElem_toArray, List.getElem_cons_zero, List.getElem_cons_succ]
            refine wpAnyH_take (i := 13) (v := ?_) rfl (by kernel_rfl) (by kernel_rfl) (by kernel_rfl) (fun _ _ _ h => h) (Or.inl ⟨by rfl, ?_⟩) hHeld ?_
            rotate_left
            · intro v9 hS9
              try dsimp only at hS9
              go_simp
              try with_reducible rfl
            try simp only [Act.put, List.setIfInBounds_toArray, List.set_cons_zero, List.set_cons_succ, List.getElem_toArray, List.getElem_cons_zero, List.getElem_cons_succ]
            refine wpAnyH_take (i := 14) (v := ?_) rfl (by kernel_rfl) (by kernel_rfl) (by kernel_rfl) (fun _ _ _ h => h) (Or.inl ⟨by rfl, ?_⟩) hHeld ?_
            rotate_left
            · intro v9 hS9
              try dsimp only at hS9
              have q2 : v9.cell? ⟨b, o + j * 3 + 2, none⟩ = some (.int .i64 bt) := by rw [hS9.cell hbw]; exact p2
              go_simp
              try with_reducible rfl
            try simp only [Act.put, List.setIfInBounds_toArray, List.set_cons_zero, List.set_cons_succ, List.getElem_toArray, List.getElem_cons_zero, List.getElem_cons_succ]
            refine wpAnyH_take (i := 15) (v := ?_) rfl (by kernel_rfl) (by kernel_rfl) (by kernel_rfl) (fun _ _ _ h => h) (Or.inl ⟨by rfl, ?_⟩) hHeld ?_
            rotate_left
            · intro v9 hS9
              try dsimp only at hS9
              go_simp
              try with_reducible rfl
            try simp only [Act.put, List.setIfInBounds_toArray, List.set_cons_zero, List.set_cons_succ, List.getElem_toArray, List.getElem_cons_zero, List.getElem_cons_succ]
            refine wpAnyH_ready (rs := [16]) (by kernel_rfl) (by simp) ?_
            refine (AllReadyH.cons rfl (fun K hK => ?_) AllReadyH.nil)
            ·
              go_simp
              refine hK.out _ _ (hHeld.alloc hHeld.size _) (fun hNext => ?_)
              clear hK K hHeld
              have hHeld := hNext
              clear hNext
              refine wpAnyH_ready (rs := [17]) (by kernel_rfl) (by simp) ?_
              refine (AllReadyH.cons rfl (fun K hK => ?_) AllReadyH.nil)
              ·
                refine step_node _ rfl _ _ rfl w.heap.size (.slice av R.length cv) R ⟨19, 1, vr, (R.length : Int) - 1, bt, 0⟩ rfl _ rfl rfl (HO.out.kept (S := fun _ => False) ((Kept.refl _ _).drew) (fun _ _ h => h)) (by first | exact hbs | simpa using hbs) (by omega) ?_
                intro g5 cp5 w5 ho5 hk5 hg5
                have HO5 : Hid (Own w5 w.heap.size (.slice (some ⟨g5, 0, none⟩) (R.length + 1) cp5) (R ++ [⟨19, 1, vr, (R.length : Int) - 1, bt, 0⟩])) := ho5
                have HK : Below w.heap.size w w5 := HB.out.drew.trans (hk5.below (fun k hk => (HO.out.lt k hk).1) hbs)
                have HB5 : Hid (Below w.heap.size w w5) := HK
                refine hK.out _ _ (HK) (fun hNext => ?_)
                clear hK K hHeld
                have hHeld := hNext
                clear hNext
                clear HK ho5 hk5 hg5
                try simp only [Act.put, List.setIfInBounds_toArray, List.set_cons_zero, List.set_cons_succ, List.getElem_toArray, List.getElem_cons_zero, List.getElem_cons_succ]
                refine wpAnyH_take (i := 18) (v := ?_) rfl (by kernel_rfl) (by kernel_rfl) (by kernel_rfl) (fun _ _ _ h => h) (Or.inl ⟨by rfl, ?_⟩) hHeld ?_
                rotate_left
                · intro v9 hS9
                  try dsimp only at hS9
                  go_simp
                  try with_reducible rfl
                try simp only [Act.put, List.setIfInBounds_toArray, List.set_cons_zero, List.set_cons_succ, List.getElem_toArray, List.getElem_cons_zero, List.getElem_cons_succ]
                refine wpAnyH_done (by kernel_rfl) ?_ _
                go_wp2
                go_roundw
                case rel => exact ⟨j, k + 1, by omega, by go_num, by rw [HBK2.out]; exact HO5.out, HB5.out⟩
                case measure => simp [intOf]


end Go.Proofs.Ytdmogjhabladcaa.Fm3
