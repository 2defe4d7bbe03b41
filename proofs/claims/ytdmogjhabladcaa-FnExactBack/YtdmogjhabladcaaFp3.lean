/- The walk of the program's Back. -/
import Derived.Test.YtdmogjhabladcaaFp2
import Derived.Test.YtdmogjhabladcaaQi1
import Derived.Test.YtdmogjhabladcaaFm3
namespace Go.Proofs.Ytdmogjhabladcaa.Fp3
open Go.RowKit
open Nd0 Nd3 Qa0 Ap2 Ap7 Fr0 Qi0 Qi1 Fp2 Fm3
set_option linter.unusedVariables false

/-- What the program's Back is to do. -/
def IBack : Prop := ∀ (w : World) (aq a : Option Addr) (q : List Qu) (l : List Nd) (cq c : Nat), Qus w aq q → q.length ≤ 1048576 → Nodes w a l → l.length ≤ c → l.length ≤ 1048576 →
    Calls Try.prog 23 #[.slice aq q.length cq, .slice a l.length c] w (BPost w q l)

set_option maxRecDepth 100000 in
set_option maxHeartbeats 8000000 in
theorem iBack (hFO : IFrontOk) : IBack := by
  intro w aq a q l cq c hQ hl hN hcap hll
  have HN : Hid (Nodes w a l) := hN
  have HQS : Hid (Qus w aq q) := hQ
  have HFO : Hid IFrontOk := hFO
  have HCAP : Hid (l.length ≤ c) := hcap
  clear hN hQ hFO hcap
  go_enter Try.func23, Try.ntmps23
  go_wp2_with fail
  refine (HFO.out _ aq a q l cq c HQS.out hl HN.out HCAP.out hll).mono ?_
  rintro e w1 ⟨rfl, hb1⟩
  have HB1 : Hid (Below w.heap.size w w1) := hb1
  clear hb1
  cases hf : frontOkB q l
  · have HF : Hid (backB q l = false) := by show _ = _; unfold backB; rw [hf]; rfl
    go_wp2
    go_ret2
    exact bpost_no HF.out HB1.out _
  · by_cases h80 : l.length + q.length ≤ 80
    rotate_left
    · have h81 : 80 < (l.length : Int) + (q.length : Int) := by omega
      have HF : Hid (backB q l = false) := by show _ = _; unfold backB; rw [hf, decide_eq_false h80]; rfl
      go_wp2
      go_ret2
      exact bpost_no HF.out HB1.out _
    · have h81 : ¬ 80 < (l.length : Int) + (q.length : Int) := by omega
      have HF : Hid (backB q l = true) := by show _ = _; unfold backB; rw [hf, decide_eq_true h80]; rfl
      have hl1 : 1 ≤ l.length := (Tm0.term_len (fo_of hf).1).1
      clear hf
      rcases (HN.out.below HB1.out).2 with h0 | ⟨xb, xo, rfl, hcn⟩
      · omega
      have hwal : Below w1.heap.size w1 (w1.alloc (.cells #[] 51)) := (Below.refl _ _).alloc (Nat.le_refl _) _
      have HHY : Hid (∀ i (h : i < l.length), NodeAt (w1.alloc (.cells #[] 51)) xb (xo + i * 6) l[i]) := fun i hi => (hcn i hi).below hwal (hcn i hi).lt
      have HOL : Hid (Own (w1.alloc (.cells #[] 51)) w.heap.size (.slice (some ⟨w1.heap.size, 0, none⟩) 0 0) []) := Own.lit w1 _ HB1.out.size
      have hs1 : w.heap.size ≤ w1.heap.size := HB1.out.size
      clear hcn
      go_wp2_with (at_builtin; go_must (refine app_nodes _ rfl _ _ rfl w.heap.size (.slice (some ⟨w1.heap.size, 0, none⟩) 0 0) [] l xb xo c rfl rfl HHY.out hl1 HOL.out (by simp; omega) (by simp; omega) ?_; intro g4 cp4 w4 ho4 hk4 hg4; simp only [List.length_nil, Nat.zero_add, List.nil_append] at ho4; have HO4 : Hid (Own w4 w.heap.size (.slice (some ⟨g4, 0, none⟩) l.length cp4) l) := ho4; have HB4 : Hid (Below w.heap.size w w4) := HB1.out.trans (((hwal.trans (hk4.below (fun k hk => by cases hk; exact Nat.le_refl _) (by simp)))).mono HB1.out.size); clear ho4 hk4 hg4 hwal))
      refine (iQuantsOf w4 aq q cq (HQS.out.below HB4.out) hl).mono ?_
      rintro e w5 ⟨⟨ai, ci, rfl, hqv, hqb⟩, hb5⟩
      have HQV : Hid (Qvs w5 ai q) := hqv
      have HQB : Hid (∀ x, ai = some x → 0 < q.length → w4.heap.size ≤ x.block ∧ x.block < w5.heap.size) := fun x hx hp => by
        refine ⟨hqb x hp hx, ?_⟩
        rcases hqv.2 with h0 | ⟨b, o, he, hc⟩
        · omega
        · rw [hx] at he
          cases he
          exact lt_of_cell (hc 0 hp)
      have HB5 : Hid (Below w.heap.size w w5) := HB4.out.trans (hb5.mono HB4.out.size)
      have HO5 : Hid (Own w5 w.heap.size (.slice (some ⟨g4, 0, none⟩) l.length cp4) l) := HO4.out.kept (S := fun _ => False) (Kept.ofBelow hb5) (fun _ _ h => h)
      have HV5 : Hid (∀ b, (Value.slice (some ⟨g4, 0, none⟩) l.length cp4).ownBlock = some b → b < w4.heap.size ∨ w5.heap.size ≤ b) := fun b h => .inl (HO4.out.lt b h).2
      clear hqv hqb hb5 HO4
      go_wp2
      go_loopw [6, 8] (fun v i wr => ∃ j k : Nat, j + k = q.length ∧ i = .int .i64 ((j : Int) - 1) ∧ Own wr w.heap.size v (backTo q l k) ∧ Below w.heap.size w wr ∧ Qvs wr ai q ∧ (∀ b, v.ownBlock = some b → b < w4.heap.size ∨ w5.heap.size ≤ b) ∧ w5.heap.size ≤ wr.heap.size) (fun _ i _ => (intOf i + 1).toNat)
      case atStart => exact ⟨q.length, 0, rfl, rfl, HO5.out, HB5.out, HQV.out, HV5.out, Nat.le_refl _⟩
      case round =>
        clear HO5 HB5 HHY HOL HQV HV5 HB4
        obtain ⟨j, k, hjk, rfl, ho, hb, hqv, hvb, hs5⟩ := hrel
        have HB : Hid (Below w.heap.size w wr) := hb
        have HQV : Hid (Qvs wr ai q) := hqv
        have HVB : Hid (∀ b, u6.ownBlock = some b → b < w4.heap.size ∨ w5.heap.size ≤ b) := hvb
        have hbs : w.heap.size ≤ wr.heap.size := hb.size
        have HRL : Hid ((backTo q l k).length = l.length + k) := backTo_length q l k
        have hrb : (backTo q l k).length ≤ 80 := by have := HRL.out; omega
        have hra : 1 ≤ (backTo q l k).length := by have := HRL.out; omega
        obtain ⟨av, cv, hv, _⟩ := ho.form
        subst hv
        have HO : Hid (Own wr w.heap.size (.slice av (backTo q l k).length cv) (backTo q l k)) := ho
        clear ho hb hqv hvb
        cases j with
        | zero =>
          have HE : Hid (k = q.length) := by show _ = _; omega
          have HO9 : Hid (Own wr w.heap.size (.slice av (backTo q l k).length cv) (backTo q l q.length)) := by rw [← HE.out]; exact HO.out
          have hz : ¬ (0 : Int) ≤ ((0 : Nat) : Int) - 1 := by omega
          go_wp2
          go_ret2
          exact bpost_yes HF.out HB.out HO9.out
        | succ j =>
          have ej : ((j + 1 : Nat) : Int) - 1 = (j : Int) := by omega
          rw [ej]
          have hlz : (j : Int) < (q.length : Int) := by omega
          have hj0 : (0 : Int) ≤ (j : Int) := by omega
          rcases HQV.out.2 with h0 | ⟨b, o, rfl, hc⟩
          · omega
          have p0 := hc j (by omega)
          rw [qth_get (by omega : j < q.length)] at p0
          clear hc ej
          have HBK : Hid (backTo q l (k + 1) = backTo q l k ++ [qNode (qth q j) ((backTo q l k).length - 1)]) := by
            show _ = _
            have e : q.length - 1 - k = j := by omega
            show backTo q l k ++ [qNode (qth q (q.length - 1 - k)) _] = _
            rw [e]
          generalize backTo q l k = R at HO HBK HRL hra hrb HVB ⊢
          generalize qth q j = x at p0 HBK
          have hR1 : (1 : Int) ≤ (R.length : Int) := by omega
          have hRw : IntKind.i64.wrap ((R.length : Int) - 1) = (R.length : Int) - 1 := by rw [IntKind.wrap_i64] <;> omega
          go_wp2_with fail
          refine (iNodeOf x _ _).mono ?_
          rintro e w6 ⟨rfl, hb6⟩
          have HK6 : Hid (Below wr.heap.size wr w6) := hb6
          have HB6 : Hid (Below w.heap.size w w6) := HB.out.trans (hb6.mono hbs)
          have HO6 : Hid (Own w6 w.heap.size (.slice av R.length cv) R) := HO.out.kept (S := fun _ => False) (Kept.ofBelow hb6) (fun _ _ h => h)
          have hs6 : w.heap.size ≤ w6.heap.size := HB6.out.size
          have hs56 : w5.heap.size ≤ w6.heap.size := Nat.le_trans hs5 hb6.size
          have HQ6 : Hid (Qvs w6 (some ⟨b, o, none⟩) q) := HQV.out.below hb6
          clear hb6
          go_wp2_with (at_builtin; go_must (refine app_node w6 rfl _ _ rfl w.heap.size (.slice av R.length cv) R ⟨if x.all then 19 else 20, 1, x.vr, (R.length : Int) - 1, x.bits, 0⟩ rfl w6.heap.size rfl rfl HO6.out hs6 (by omega) ?_; intro g7 cp7 w7 ho7 hk7 hg7; have HO7 : Hid (Own w7 w.heap.size (.slice (some ⟨g7, 0, none⟩) (R.length + 1) cp7) (R ++ [⟨if x.all then 19 else 20, 1, x.vr, (R.length : Int) - 1, x.bits, 0⟩])) := ho7; have HB7 : Hid (Below w.heap.size w w7) := HB6.out.trans (hk7.below (fun k hk => (HO6.out.lt k hk).1) hs6); have HQ7 : Hid (Qvs w7 (some ⟨b, o, none⟩) q) := (HQ6.out.kept hk7 (fun y hy h => by have h1 := HQB.out y hy (by omega); have h2 := HVB.out y.block h; omega)); have hs7 : w5.heap.size ≤ w7.heap.size := Nat.le_trans hs56 hk7.size; have HV7 : Hid (∀ b, (Value.slice (some ⟨g7, 0, none⟩) (R.length + 1) cp7).ownBlock = some b → b < w4.heap.size ∨ w5.heap.size ≤ b) := (fun b' hb' => by have e9 : g7 = b' := Option.some.inj hb'; subst e9; rcases hg7 with h9 | h9; exact HVB.out g7 h9; exact .inr (Nat.le_trans hs56 h9)); clear ho7 hk7 hg7))
          go_roundw
          case rel => exact ⟨j, k + 1, by omega, by go_num, by rw [HBK.out]; exact HO7.out, HB7.out, HQ7.out, HV7.out, hs7⟩
          case measure => simp [intOf]

end Go.Proofs.Ytdmogjhabladcaa.Fp3
