/- Small texts of mine, one behind the other. -/
import Derived.Test.YtebejleeadofcaaPkXF24
import Derived.Test.YtebejleeadofcaaPkXF33
import Derived.Test.YtebejleeadofcaaFq2
import Derived.Test.YtebejleeadofcaaFq3
/- Lists of nodes that may be written, kept apart by where they lie. -/
namespace Go.Proofs.Ytebejleeadofcaa.Nd5
open Go.RowKit
open Nd0 Nd3

/-- A slice of the nodes l, in a block from B on and below U, that may be written. -/
def NodesIn (w : World) (B U : Nat) (a : Option Addr) (l : List Nd) : Prop :=
  l.length ≤ maxLen ∧ (l.length = 0 ∨ ∃ b o, a = some ⟨b, o, none⟩ ∧ B ≤ b ∧ b < U ∧ (∀ i (h : i < l.length), NodeAt w b (o + i * 6) l[i]) ∧ ∀ j, j < l.length * 6 → w.frozen? ⟨b, o + j, none⟩ = false)
theorem WNodes.within {w : World} {B : Nat} {a : Option Addr} {l : List Nd} (h : WNodes w B a l) : NodesIn w B w.heap.size a l := by
  refine ⟨h.1, ?_⟩
  by_cases e : l.length = 0
  · exact .inl e
  · rcases h.2 with h0 | ⟨b, o, ha, hB, hc, hf⟩
    · exact .inl h0
    · exact .inr ⟨b, o, ha, hB, (hc 0 (by omega)).lt, hc, hf⟩
theorem NodesIn.wnodes {w : World} {B U : Nat} {a : Option Addr} {l : List Nd} (h : NodesIn w B U a l) : WNodes w B a l := by
  refine ⟨h.1, ?_⟩
  rcases h.2 with h0 | ⟨b, o, ha, hB, _, hc, hf⟩
  · exact .inl h0
  · exact .inr ⟨b, o, ha, hB, hc, hf⟩
theorem NodesIn.kept {w w' : World} {B U : Nat} {a : Option Addr} {l : List Nd} (h : NodesIn w B U a l) {S : Nat → Prop} (k : Kept S w w') (hs : ∀ b, B ≤ b → b < U → ¬ S b) : NodesIn w' B U a l := by
  refine ⟨h.1, ?_⟩
  by_cases e : l.length = 0
  · exact .inl e
  rcases h.2 with h0 | ⟨b, o, rfl, hB, hU, hc, hf⟩
  · exact .inl h0
  · have hb : b < w.heap.size := (hc 0 (by omega)).lt
    have hn : ¬ S b := hs b hB hU
    refine .inr ⟨b, o, rfl, hB, hU, fun i hi => ?_, fun j hj => by rw [k.frozen (p := ⟨b, o + j, none⟩) hb hn]; exact hf j hj⟩
    obtain ⟨c0, c1, c2, c3, c4, c5⟩ := hc i hi
    exact ⟨by rw [k.cell hb hn]; exact c0, by rw [k.cell hb hn]; exact c1, by rw [k.cell hb hn]; exact c2, by rw [k.cell hb hn]; exact c3, by rw [k.cell hb hn]; exact c4, by rw [k.cell hb hn]; exact c5⟩
theorem NodesIn.again {w w' : World} {B U : Nat} {a : Option Addr} {l l' : List Nd} (h : NodesIn w B U a l) (h' : WNodes w' B a l') (e : l'.length = l.length) : NodesIn w' B U a l' := by
  refine ⟨h'.1, ?_⟩
  rcases h.2 with h0 | ⟨b, o, rfl, hB, hU, hc, hf⟩
  · exact .inl (by omega)
  · rcases h'.2 with h0 | ⟨b', o', ha, hB', hc', hf'⟩
    · exact .inl h0
    · cases ha
      exact .inr ⟨b, o, rfl, hB, hU, hc', hf'⟩
theorem NodesIn.ats {w : World} {B U : Nat} {a : Option Addr} {l : List Nd} (h : NodesIn w B U a l) {k : Nat} (hk : Ats l.length a k) : B ≤ k ∧ k < U := by
  obtain ⟨hp, x, hx, rfl⟩ := hk
  rcases h.2 with h0 | ⟨b, o, rfl, hB, hU, _⟩
  · omega
  · cases hx; exact ⟨hB, hU⟩
theorem NodesIn.below {w w' : World} {B U : Nat} {a : Option Addr} {l : List Nd} (h : NodesIn w B U a l) (k : Below w.heap.size w w') : NodesIn w' B U a l :=
  h.kept (S := fun _ => False) (Kept.ofBelow k) (fun _ _ _ h => h)
theorem NodesIn.nodes {w : World} {B U : Nat} {a : Option Addr} {l : List Nd} (h : NodesIn w B U a l) : Nodes w a l := h.wnodes.nodes

end Go.Proofs.Ytebejleeadofcaa.Nd5

/- The program's Front. -/
namespace Go.Proofs.Ytebejleeadofcaa.Fq4
open Go.RowKit
open Nd0 Nd3 Nd5 Qa0 Qa2 Tm0 Tm6 Tm11 Fr0 Fr2 Qi0 Qi1 Fq1 Fq2 Fq3 Ap14
open Lx2 (IReached)
open Lx4 (IPrune)
open Lx6 (ISentence)
set_option linter.unusedVariables false

/-- What the program's Front is to do. -/
def IFront : Prop := ∀ (w : World) (a : Option Addr) (l : List Nd) (c : Nat), Nodes w a l → l.length ≤ c → l.length ≤ 1048576 →
    Calls Try.prog 7 #[.slice a l.length c] w fun e w' => (∃ aq cq ar cr U, e = .returned (.tuple #[.slice aq (frontQ l).length cq, .slice ar (frontR l).length cr, .bool (sentB l)]) ∧ QusIn w' w.heap.size U aq (frontQ l) ∧ NodesIn w' U w'.heap.size ar (frontR l) ∧ w.heap.size ≤ U ∧ U ≤ w'.heap.size ∧ (frontQ l).length ≤ cq ∧ (frontR l).length ≤ cr) ∧ Below w.heap.size w w'

theorem frontQ_le (l : List Nd) : (frontQ l).length ≤ 1048576 := by
  cases hs : sentB l with
  | true =>
    have h := Fr5.wk_len hs false
    unfold frontQ
    rw [hs, if_pos rfl]
    omega
  | false => unfold frontQ; rw [hs]; simp
theorem frontR_short (l : List Nd) : (frontR l).length ≤ 81 := by
  have h := frontR_le l
  cases hs : sentB l with
  | true => have := term_len (sent_ok hs); omega
  | false => unfold frontR; rw [hs]; simp
set_option maxRecDepth 100000 in
set_option maxHeartbeats 4000000 in
theorem iFront (hSE : ISentence) (hRE : IReached) (hPR : IPrune) : IFront := by
  intro w a l c hN hcap hl
  have HSE : Hid ISentence := hSE
  have HRE : Hid IReached := hRE
  have HPR : Hid IPrune := hPR
  have HN : Hid (Nodes w a l) := hN
  have HCAP : Hid (l.length ≤ c) := hcap
  obtain ⟨wa, hwa⟩ : ∃ wa : World, wa = w.alloc (.cells #[] 50) := ⟨_, rfl⟩
  have HBA : Hid (Below w.heap.size w wa) := by rw [hwa]; exact (Below.refl _ _).alloc (Nat.le_refl _) _
  have HO0 : Hid (OwQu wa w.heap.size (.slice (some ⟨w.heap.size, 0, none⟩) 0 0) []) := by rw [hwa]; exact OwQu.lit w _ (Nat.le_refl _)
  have hlt : w.heap.size < wa.heap.size := by rw [hwa]; simp
  have HE0 : Hid (∀ j, wa.cell? ⟨w.heap.size, j, none⟩ = none) := by
    intro j
    rw [hwa, World.cell?_alloc_new]
    simp
  clear hSE hRE hPR hN hcap
  go_enter Try.func7, Try.ntmps7
  go_wp2_with fail
  rw [← hwa]
  clear hwa
  refine (HSE.out _ a l c (HN.out.below HBA.out) HCAP.out hl).mono ?_
  rintro e w1 ⟨rfl, hb1⟩
  have HB1 : Hid (Below w.heap.size w w1) := HBA.out.trans (hb1.mono HBA.out.size)
  have HO1 : Hid (OwQu w1 w.heap.size (.slice (some ⟨w.heap.size, 0, none⟩) 0 0) []) := HO0.out.kept (S := fun _ => False) (Kept.ofBelow hb1) (fun _ _ h => h)
  have HE1 : Hid (∀ j, w1.cell? ⟨w.heap.size, j, none⟩ = none) := fun j => by rw [hb1.cell hlt]; exact HE0.out j
  have hlt1 : w.heap.size < w1.heap.size := Nat.lt_of_lt_of_le hlt hb1.size
  clear hb1 HO0 HBA HE0 hlt
  cases hs : sentB l
  · have HQ0 : Hid (frontQ l = [] ∧ frontR l = []) := ⟨by unfold frontQ; rw [hs]; rfl, by unfold frontR; rw [hs]; rfl⟩
    go_wp2
    go_ret3
    rw [HQ0.out.1, HQ0.out.2, hs]
    exact ⟨⟨_, _, _, _, w1.heap.size, rfl, ⟨Nat.zero_le _, .inl rfl⟩, ⟨Nat.zero_le _, .inl rfl⟩, HB1.out.size, by simp, Nat.zero_le _, Nat.zero_le _⟩, HB1.out.alloc HB1.out.size _⟩
  · have HS : Hid (sentB l = true) := hs
    have HFL : Hid ((frontQ l).length ≤ 1000) := by
      show _ ≤ _
      rw [Fq0.fq_front hs]
      have hT := sent_ok hs
      have h1 := term_len hT
      exact Nat.le_trans (Fq0.fq_le hs (by omega) (Tm8.reach_root h1.1)) (by omega)
    have HFR : Hid (frontR l = restL l) := by show _ = _; unfold frontR; rw [hs]; rfl
    clear hs
    go_wp2_with fail
    refine (iAtFront HRE.out _ a l c (HN.out.below HB1.out) HCAP.out HS.out).mono ?_
    rintro e w2 ⟨⟨aq, cq, rfl, hq2⟩, hb2⟩
    have HB2 : Hid (Below w.heap.size w w2) := HB1.out.trans (hb2.mono HB1.out.size)
    have HO2 : Hid (OwQu w2 w.heap.size (.slice (some ⟨w.heap.size, 0, none⟩) 0 0) []) := HO1.out.kept (S := fun _ => False) (Kept.ofBelow hb2) (fun _ _ h => h)
    have HQ2 : Hid (Qvs w2 aq (frontQ l)) := hq2
    have HE2 : Hid (∀ j, w2.cell? ⟨w.heap.size, j, none⟩ = none) := fun j => by rw [hb2.cell hlt1]; exact HE1.out j
    clear hb2 hq2 HO1 HB1 HE1 hlt1
    obtain ⟨q, hq⟩ : ∃ q, q = frontQ l := ⟨_, rfl⟩
    rw [← hq] at HFL HQ2 ⊢
    have HQE : Hid (q = frontQ l) := hq
    clear hq
    go_wp2_with fail
    go_loopw [5, 17] (fun v i wr => ∃ k : Nat, k ≤ q.length ∧ i = .int .i64 k ∧ OwQu wr w.heap.size v (q.take k) ∧ Below w.heap.size w wr ∧ Qvs wr aq q ∧ (0 < q.length → ∀ x, aq = some x → v.ownBlock ≠ some x.block)) (fun _ i _ => q.length - (intOf i).toNat)
    case atStart =>
      refine ⟨0, Nat.zero_le _, rfl, by rw [List.take_zero]; exact HO2.out, HB2.out, HQ2.out, fun h x hx e => ?_⟩
      rcases HQ2.out.2 with h0 | ⟨b, o, rfl, hc⟩
      · omega
      · cases hx
        have e' : w.heap.size = b := Option.some.inj e
        have h9 := hc 0 h
        rw [← e', HE2.out] at h9
        cases h9
    case round =>
      obtain ⟨k, hk, rfl, ho, hb, hqv, hown⟩ := hrel
      have HO : Hid (OwQu wr w.heap.size u5 (q.take k)) := ho
      have HB : Hid (Below w.heap.size w wr) := hb
      have HQ : Hid (Qvs wr aq q) := hqv
      have HW : Hid (0 < q.length → ∀ x, aq = some x → u5.ownBlock ≠ some x.block) := hown
      have hbs : w.heap.size ≤ wr.heap.size := hb.size
      have hq9 : q.length ≤ 1000 := HFL.out
      have HTL : Hid ((q.take k).length = k) := by show _ = _; rw [List.length_take]; omega
      clear ho hb hqv hown HO2 HB2 HQ2 HE2
      by_cases hlt : k < q.length
      · have hlz : (k : Int) < (q.length : Int) := by omega
        rcases HQ.out.2 with h0 | ⟨b, o, rfl, hc⟩
        · omega
        have p0 := hc k hlt
        have HBL : Hid (b < wr.heap.size) := lt_of_cell p0
        clear hc
        have HT : Hid (q.take (k + 1) = q.take k ++ [q[k]]) := by
          show _ = _
          rw [List.take_succ_eq_append_getElem hlt]
        obtain ⟨x, hx⟩ : ∃ x, x = q[k] := ⟨_, rfl⟩
        rw [← hx] at p0 HT
        clear hx
        generalize q.take k = L at HO HTL HT
        go_wp2_with fail
        refine (iQuantOf x _).mono ?_
        rintro e w3 ⟨rfl, hb3⟩
        have HB3 : Hid (Below w.heap.size w w3) := HB.out.trans (hb3.mono hbs)
        have HO3 : Hid (OwQu w3 w.heap.size u5 L) := HO.out.kept (S := fun _ => False) (Kept.ofBelow hb3) (fun _ _ h => h)
        have HQ3 : Hid (Qvs w3 (some ⟨b, o, none⟩) q) := HQ.out.below hb3
        have hbs3 : w.heap.size ≤ w3.heap.size := HB3.out.size
        have HBL3 : Hid (b < w3.heap.size) := Nat.lt_of_lt_of_le HBL.out hb3.size
        clear hb3 p0
        go_wp2_with (at_builtin; go_must (refine appQu w3 rfl _ _ rfl w.heap.size u5 L x rfl _ rfl rfl HO3.out hbs3 (by have := HFL.out; rw [HTL.out]; omega) ?_; intro g5 cp5 w5 ho5 hk5 hg5; have HO5 : Hid (OwQu w5 w.heap.size (.slice (some ⟨g5, 0, none⟩) (L.length + 1) cp5) (L ++ [x])) := ho5; have HB5 : Hid (Below w.heap.size w w5) := HB3.out.trans (hk5.below (fun b hb => (HO3.out.lt b hb).1) hbs3); have HQ5 : Hid (Qvs w5 (some ⟨b, o, none⟩) q) := HQ3.out.kept hk5 (fun y hy => HW.out (by omega) y hy); have HG5 : Hid (u5.ownBlock = some g5 ∨ w3.heap.size ≤ g5) := hg5; clear ho5 hk5 hg5))
        go_roundw
        case rel =>
          refine ⟨k + 1, by omega, by go_num, by rw [HT.out]; exact HO5.out, HB5.out, HQ5.out, fun h x hx e => ?_⟩
          cases hx
          have e' : g5 = b := Option.some.inj e
          rcases HG5.out with h9 | h9
          · exact HW.out (by omega) ⟨b, o, none⟩ rfl (by rw [h9, e'])
          · have := HBL3.out
            omega
        case measure => simp [intOf]; omega
      · have HE : Hid (q.take k = q) := by show _ = _; rw [List.take_of_length_le (by omega)]
        obtain ⟨av, cv, hv, hq, hcap⟩ := HO.out.form
        rw [HE.out] at hv hq hcap
        subst hv
        have HI : Hid (WQus wr w.heap.size av q ∧ q.length ≤ cv) := ⟨hq, hcap⟩
        clear hq hcap HO HE HQ HW HTL
        go_wp2_with fail
        refine (iWithout HPR.out _ a l c (HN.out.below HB.out) (sent_ok HS.out)).mono ?_
        rintro e w4 ⟨⟨ar, cr, rfl, hw4, hc4⟩, hb4⟩
        have HB4 : Hid (Below w.heap.size w w4) := HB.out.trans (hb4.mono hbs)
        have HI4 : Hid (QusIn w4 w.heap.size wr.heap.size av q) := HI.out.1.within.below hb4
        have HW4 : Hid (NodesIn w4 wr.heap.size w4.heap.size ar (restL l)) := WNodes.within hw4
        have HZ4 : Hid (w.heap.size ≤ wr.heap.size ∧ wr.heap.size ≤ w4.heap.size) := ⟨hbs, hb4.size⟩
        have HC4 : Hid ((restL l).length ≤ cr) := hc4
        clear hw4 hc4 hb4
        go_wp2_with fail
        go_ret3
        rw [HFR.out, HS.out, ← HQE.out]
        exact ⟨⟨_, _, _, _, _, rfl, HI4.out, HW4.out, HZ4.out.1, HZ4.out.2, HI.out.2, HC4.out⟩, HB4.out⟩

end Go.Proofs.Ytebejleeadofcaa.Fq4
