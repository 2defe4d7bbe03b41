/- The law of instances, out of contracts of the program's. -/
import Derived.Deep.CutRange
import Derived.Deep.RegionHeld
import Derived.Test.YtdmogjhabladcaaGreatDw9
import Derived.Test.YtdmogjhabladcaaGreatPkD
import Derived.Test.YtdmogjhabladcaaGreatLw0
import Derived.Test.YtdmogjhabladcaaGreatPkM
import Derived.Test.YtdmogjhabladcaaGreatPkH
import Derived.Test.YtdmogjhabladcaaGreatPkB
import Derived.Test.YtdmogjhabladcaaGreatPkN
namespace Go.Proofs.YtdmogjhabladcaaGreat.Li1
open Go.RowKit
open Nd0 Nd3 Tm0 Tm6 Tm11 Tm12 Ap0 Ap2 Pl1 Vl1 Vl2 Vl3 Vl4 Vm0 Bt0 Rw0 Rw1 Ic4 Dw0 Dw3 Dw4 Dw5 Dw8 Dw9 Lw4
open Dr0 (Cur Only Bytes Off)
open Lw0 (lpow)
open Sv6 (vRes sValue)
open Sp4 (sTermOk)
open Dw6 (own_cap)
open Ws1 (ret_int ret_bool)
set_option linter.unusedVariables false

theorem inst_facts {L : List Nd} {E : List Int} {v bw : Int} (hT : termOk L = true) (hw : (nth L (L.length - 1)).w = 1) (hl : L.length < 80) (hv : 0 ≤ v ∧ v ≤ 7) (hb : 1 ≤ bw ∧ bw ≤ 8) :
    (valueL (L ++ [⟨20, 1, v, (L.length : Int) - 1, bw, 0⟩]) E).isSome = (valueL (L ++ [⟨19, 1, v, (L.length : Int) - 1, bw, 0⟩]) E).isSome ∧
    ∀ x y, valueL (L ++ [⟨19, 1, v, (L.length : Int) - 1, bw, 0⟩]) E = some x → valueL (L ++ [⟨20, 1, v, (L.length : Int) - 1, bw, 0⟩]) E = some y → E.length = 8 ∧
      (∀ k : Nat, k < 2 ^ bw.toNat → valueL L (E.set v.toNat (k : Int)) = some (vT (root L) (E.set v.toNat (k : Int)))) ∧
      x = allN (fun k => vT (root L) (E.set v.toNat (k : Int))) (2 ^ bw.toNat) ∧ y = anyN (fun k => vT (root L) (E.set v.toNat (k : Int))) (2 ^ bw.toNat) := by
  refine ⟨?_, fun x y hx hy => ?_⟩
  · cases h1 : (valueL (L ++ [⟨19, 1, v, (L.length : Int) - 1, bw, 0⟩]) E).isSome with
    | true => exact quant_can hT hw hl hv hb (.inl rfl) (.inr rfl) h1
    | false =>
      cases h2 : (valueL (L ++ [⟨20, 1, v, (L.length : Int) - 1, bw, 0⟩]) E).isSome with
      | false => rfl
      | true => rw [quant_can hT hw hl hv hb (.inr rfl) (.inl rfl) h2] at h1; cases h1
  · obtain ⟨h1, h2⟩ := value_quant hT hw hl (.inl rfl) hv hb hx
    obtain ⟨_, h3⟩ := value_quant hT hw hl (.inr rfl) hv hb hy
    obtain ⟨_, he, _⟩ := value_parts.1 hx
    refine ⟨he, h1, ?_, ?_⟩
    · rw [← h2]; simp only [vT, if_true]; rfl
    · rw [← h3]; simp only [vT, show ¬ (20 : Int) = 19 by decide, if_false, if_true]; rfl
theorem row_of {w : World} {B g c : Nat} {l : List Int} (h : Ows w B (.slice (some ⟨g, 0, none⟩) l.length c) l) (hl : 1 ≤ l.length) : Row w g l.length (fun i => .int .i64 (wd l (i : Int))) ∧ B ≤ g ∧ g < w.heap.size ∧ l.length ≤ c := by
  have hc : l.length ≤ c := by
    obtain ⟨h1, h2⟩ := h
    rcases h2 with ⟨e, h0⟩ | ⟨g9, cap, cur, e, hb, hg, hn, _⟩
    · omega
    · cases e; exact hn
  obtain ⟨g', c', hv, h1, h2, h3⟩ := row_ints h hl
  cases hv
  exact ⟨h3, h1, h2, hc⟩
theorem step_bits {f : Nat → Int} {k : Nat} (h : f k = 0 ∨ f k = 1) : nAnd (allN f k) (f k) = allN f (k + 1) ∧ nOr (anyN f k) (f k) = anyN f (k + 1) := by
  rcases h with h | h
  · rw [allN_no (by omega), anyN_no (by omega), h]
    rcases allN_bit f k with e | e <;> rcases anyN_bit f k with e' | e' <;> rw [e, e'] <;> decide
  · rw [allN_yes h, anyN_yes h, h]
    rcases allN_bit f k with e | e <;> rcases anyN_bit f k with e' | e' <;> rw [e, e'] <;> decide

set_option maxRecDepth 100000 in
set_option maxHeartbeats 16000000 in
theorem lawInst (hVA : IValue) (hRP : IReplace) (w : World) (a : Option Addr) (len cap : Nat) (hb : Bytes w a len) :
    Calls Tryz.prog 3 #[.slice a len cap] w fun e w' => e = .returned (.bool true) ∧ Below w.heap.size w w' := by
  have HB : Hid (Bytes w a len) := hb
  have HVA : Hid IValue := hVA
  have HRP : Hid IReplace := hRP
  clear hb hVA hRP
  by_cases hs : 1048576 < len
  · go_enter Tryz.func3, Tryz.ntmps3
    go_wp2_with fail
    refine (lbig _ a len cap true (by simp; omega)).mono ?_
    rintro e w' ⟨rfl, rfl⟩
    go_wp2
    go_ret
    exact ⟨rfl, Below.refl _ _⟩
  have hsl : len ≤ 1048576 := by omega
  go_enter Tryz.func3, Tryz.ntmps3
  go_wp2_with fail
  refine (lbig _ a len cap false (by simp; omega)).mono ?_
  rintro e w0 ⟨rfl, rfl⟩
  go_wp2_with fail
  refine (drawValue2 _ a len cap HB.out).mono ?_
  rintro e w1 ⟨g, c, L, ge, ce, E, rfl, hn, hb1, hl1, hl2, hcL, hi, hel, hce⟩
  have HCL : Hid (L.length ≤ c) := hcL
  have HN1 : Hid (Nodes w1 (some ⟨g, 0, none⟩) L) := hn
  have HB1 : Hid (Below w0.heap.size w0 w1) := hb1
  have HI1 : Hid (Ints w1 (some ⟨ge, 0, none⟩) E) := hi
  have HEL : Hid (E.length = 7 ∨ E.length = 8) := hel
  have HCE : Hid (E.length ≤ ce) := hce
  have he8 : E.length ≤ 8 := by omega
  have he7 : 7 ≤ E.length := by omega
  have HBy : Hid (Bytes w1 a len) := HB.out.below HB1.out
  clear hn hb1 hcL hi hel hce
  go_wp2_with fail
  refine (lat _ a len cap 3 (by omega) (by omega) HBy.out hsl).mono ?_
  rintro e w2 ⟨⟨x3, rfl, hx0, hx1⟩, hw2⟩
  have hw2' := hw2.symm
  clear hw2
  subst hw2'
  go_wp2_with fail
  refine (lat _ a len cap 4 (by omega) (by omega) HBy.out hsl).mono ?_
  rintro e w2 ⟨⟨y3, rfl, hy0, hy1⟩, hw2⟩
  have hw2' := hw2.symm
  clear hw2
  subst hw2'
  have hv0 : 0 ≤ x3 % 4 := by omega
  have hv1 : x3 % 4 ≤ 3 := by omega
  have hb0 : 0 ≤ y3 % 3 := by omega
  have hb3 : y3 % 3 ≤ 2 := by omega
  go_wp2_with fail
  refine (sTermOk _ _ L c HN1.out).mono ?_
  rintro e w2 ⟨rfl, hb2⟩
  have HN2 : Hid (Nodes w2 (some ⟨g, 0, none⟩) L) := HN1.out.below hb2
  have HI2 : Hid (Ints w2 (some ⟨ge, 0, none⟩) E) := HI1.out.below hb2
  have HB2 : Hid (Below w0.heap.size w0 w2) := HB1.out.trans (hb2.mono HB1.out.size)
  clear hb2 HN1 HI1 HB1 HBy
  generalize x3 % 4 = v at hv0 hv1 ⊢
  generalize hbw : 1 + y3 % 3 = bw
  have hbw1 : 1 ≤ bw := by omega
  have hbw3 : bw ≤ 3 := by omega
  clear hbw hb0 hb3 hx0 hx1 hy0 hy1
  rcases HN2.out.2 with h0 | ⟨b', o', he, hcn⟩
  · omega
  cases he
  have p1 := (hcn (L.length - 1) (by omega)).c1
  rw [nth_get (by omega : L.length - 1 < L.length), Nat.zero_add] at p1
  clear hcn
  have g1 : (0 : Int) ≤ (L.length : Int) - 1 := by omega
  have g2 : (L.length : Int) - 1 < (L.length : Int) := by omega
  obtain ⟨rw9, hrw9⟩ : ∃ z : Int, z = (nth L (L.length - 1)).w := ⟨_, rfl⟩
  rw [← hrw9] at p1
  have HRW : Hid (rw9 = (nth L (L.length - 1)).w) := hrw9
  clear hrw9
  cases hT : termOk L
  · go_wp2
    go_ret
    exact ⟨rfl, HB2.out⟩
  cases hw : (rw9 != 1)
  rotate_left
  · go_wp2
    go_ret
    exact ⟨rfl, HB2.out⟩
  by_cases h80 : 80 ≤ L.length
  · have h81 : (80 : Int) ≤ (L.length : Int) := by omega
    go_wp2
    go_ret
    exact ⟨rfl, HB2.out⟩
  have h81 : ¬ (80 : Int) ≤ (L.length : Int) := by omega
  have HT : Hid (termOk L = true) := hT
  have HW1 : Hid ((nth L (L.length - 1)).w = 1) := by
    have : rw9 = 1 := by simpa using hw
    show _ = _
    rw [← HRW.out]; exact this
  clear HRW
  obtain ⟨wq, hwq⟩ : ∃ wq : World, wq = w2.alloc (.cells #[.int .i64 19, .int .i64 1, .int .i64 v, .int .i64 ((L.length : Int) - 1), .int .i64 bw, .int .i64 0] 31) := ⟨_, rfl⟩
  obtain ⟨gr, hgr'⟩ : ∃ gr : Nat, gr = w2.heap.size := ⟨_, rfl⟩
  have hbq : Below w2.heap.size w2 wq := by rw [hwq]; exact (Below.refl _ _).alloc (Nat.le_refl _) _
  have HVQ : Hid (Nodes wq (some ⟨g, 0, none⟩) L) := HN2.out.below hbq
  have HIQ : Hid (Ints wq (some ⟨ge, 0, none⟩) E) := HI2.out.below hbq
  have HBQ : Hid (Below w0.heap.size w0 wq) := HB2.out.trans (hbq.mono HB2.out.size)
  have hgr : gr < wq.heap.size := by rw [hwq, hgr']; simp
  have HRN : Hid (NodeAt wq gr 0 ⟨19, 1, v, (L.length : Int) - 1, bw, 0⟩ ∧ (∀ j, wq.frozen? ⟨gr, j, none⟩ = false) ∧ w0.heap.size ≤ gr) := by
    rw [hwq, hgr']
    exact ⟨⟨by rw [World.cell?_alloc_new]; rfl, by rw [World.cell?_alloc_new]; rfl, by rw [World.cell?_alloc_new]; rfl, by rw [World.cell?_alloc_new]; rfl, by rw [World.cell?_alloc_new]; rfl, by rw [World.cell?_alloc_new]; rfl⟩, fun j => by simp, HB2.out.size⟩
  obtain ⟨z0, z1, z2, z3, z4, z5⟩ := HRN.out.1
  simp only [Nat.zero_add] at z1 z2 z3 z4 z5
  have HN0 : Hid (Nodes w2 (some ⟨g, 0, none⟩) L) := HN2.out
  have HI0 : Hid (Ints w2 (some ⟨ge, 0, none⟩) E) := HI2.out
  have hgr2 : w2.heap.size ≤ gr := by omega
  clear hbq HN2 HI2
  go_upto_region 8 with fail
  rw [← hwq, ← hgr']
  clear hwq hgr' p1 hw hT
  go_cut [8] from 64 to 69 (fun s8 wc => ∃ g9 c9, s8 = .slice (some ⟨g9, 0, none⟩) (L.length + 1) c9 ∧ wq.heap.size ≤ g9 ∧ Nodes wc (some ⟨g9, 0, none⟩) (L ++ [⟨19, 1, v, (L.length : Int) - 1, bw, 0⟩]) ∧ Below wq.heap.size wq wc ∧ L.length + 1 ≤ c9)
  case first =>
    refine wp_region_held_drew (S := fun w' => Below wq.heap.size wq w') (by kernel_rfl) ((Below.refl _ _).drew) (fun hHeld => ?_)
    refine wpAnyH_take (i := 1) (v := ?_) rfl (by kernel_rfl) (by kernel_rfl) (by kernel_rfl) (fun _ _ _ h => h) (Or.inl ⟨by rfl, ?_⟩) hHeld ?_
    rotate_left
    · intro v9 hS9
      try dsimp only at hS9
      go_simp
      try with_reducible rfl
    try simp only [Act.put, List.setIfInBounds_toArray, List.set_cons_zero, List.set_cons_succ, List.getElem_toArray, List.getElem_cons_zero, List.getElem_cons_succ]
    refine wpAnyH_take (i := 3) (v := ?_) rfl (by kernel_rfl) (by kernel_rfl) (by kernel_rfl) (fun _ _ _ h => h) (Or.inl ⟨by rfl, ?_⟩) hHeld ?_
    rotate_left
    · intro v9 hS9
      try dsimp only at hS9
      have q0 : v9.cell? ⟨gr, 0, none⟩ = some (.int .i64 19) := by rw [hS9.cell hgr]; exact z0
      have q1 : v9.cell? ⟨gr, 1, none⟩ = some (.int .i64 1) := by rw [hS9.cell hgr]; exact z1
      have q2 : v9.cell? ⟨gr, 2, none⟩ = some (.int .i64 v) := by rw [hS9.cell hgr]; exact z2
      have q3 : v9.cell? ⟨gr, 3, none⟩ = some (.int .i64 ((L.length : Int) - 1)) := by rw [hS9.cell hgr]; exact z3
      have q4 : v9.cell? ⟨gr, 4, none⟩ = some (.int .i64 bw) := by rw [hS9.cell hgr]; exact z4
      have q5 : v9.cell? ⟨gr, 5, none⟩ = some (.int .i64 0) := by rw [hS9.cell hgr]; exact z5
      go_simp
      try with_reducible rfl
    try simp only [Act.put, List.setIfInBounds_toArray, List.set_cons_zero, List.set_cons_succ, List.getElem_toArray, List.getElem_cons_zero, List.getElem_cons_succ]
    have hvp : 0 < L.length := by omega
    rcases HVQ.out.2 with h0 | ⟨vb, vo, he9, hvc⟩
    · omega
    cases he9
    refine wpAnyH_ready (rs := [0, 4]) (by kernel_rfl) (by simp) ?_
    refine (AllReadyH.cons rfl (fun K hK => ?_) (AllReadyH.cons rfl (fun K hK => ?_) AllReadyH.nil))
    ·
      go_simp
      refine hK.out _ _ (hHeld.alloc hHeld.size _) (fun hNext => ?_)
      clear hK K hHeld
      have hHeld := hNext
      clear hNext
      refine wpAnyH_ready (rs := [2, 4]) (by kernel_rfl) (by simp) ?_
      refine (AllReadyH.cons rfl (fun K hK => ?_) (AllReadyH.cons rfl (fun K hK => ?_) AllReadyH.nil))
      ·
        refine step_app_nodes _ rfl _ _ rfl wq.heap.size (.slice (some ⟨wq.heap.size, 0, none⟩) 0 0) [] L g 0 c rfl rfl (fun i hi => (hvc i hi).below hHeld (hvc i hi).lt) hvp (own_lit _ _ _ rfl (Nat.le_refl _)) hHeld.size (by simp; omega) ?_
        intro g1 cp1 w1 ho1 hk1 hg1
        have HG1 : wq.heap.size ≤ g1 := by
          rcases hg1 with e | e
          · cases e; first | exact Nat.le_refl _ | exact Nat.le_succ _
          · exact Nat.le_trans hHeld.size e
        simp only [List.length_nil, Nat.zero_add, List.nil_append] at ho1
        simp only [List.length_nil, Nat.zero_add]
        have HK1 := hHeld.trans (hk1.below (fun k hk => by cases hk; first | exact Nat.le_refl _ | exact Nat.le_succ _) hHeld.size)
        refine hK.out _ _ (HK1) (fun hNext => ?_)
        clear hK K hHeld
        have hHeld := hNext
        clear hNext
        clear HK1
        try simp only [Act.put, List.setIfInBounds_toArray, List.set_cons_zero, List.set_cons_succ, List.getElem_toArray, List.getElem_cons_zero, List.getElem_cons_succ]
        refine wpAnyH_ready (rs := [4]) (by kernel_rfl) (by simp) ?_
        refine (AllReadyH.cons rfl (fun K hK => ?_) AllReadyH.nil)
        ·
          go_simp
          refine hK.out _ _ (hHeld.alloc hHeld.size _) (fun hNext => ?_)
          clear hK K hHeld
          have hHeld := hNext
          clear hNext
          refine wpAnyH_ready (rs := [5]) (by kernel_rfl) (by simp) ?_
          refine (AllReadyH.cons rfl (fun K hK => ?_) AllReadyH.nil)
          ·
            refine step_app_nodes _ rfl _ _ rfl wq.heap.size (.slice (some ⟨g1, 0, none⟩) L.length cp1) L [⟨19, 1, v, (L.length : Int) - 1, bw, 0⟩] w1.heap.size 0 1 rfl rfl (node_new _ _ _ _ rfl) (by simp) (World.ownsRow.alloc ho1 _) hHeld.size (by first | (simp; done) | (simp; omega)) ?_
            intro g2 cp2 wz ho2 hk2 hg2
            have HG2 : wq.heap.size ≤ g2 := by
              rcases hg2 with e | e
              · cases e; first | exact HG1 | exact Nat.le_refl _ | exact Nat.le_succ _
              · exact Nat.le_trans hHeld.size e
            simp only [List.length_cons, List.length_nil, Nat.zero_add]
            have HK2 := hHeld.trans (hk2.below (fun k hk => by cases hk; first | exact HG1 | exact Nat.le_refl _ | exact Nat.le_succ _) hHeld.size)
            refine hK.out _ _ (HK2) (fun hNext => ?_)
            clear hK K hHeld
            have hHeld := hNext
            clear hNext
            clear HK2
            try simp only [Act.put, List.setIfInBounds_toArray, List.set_cons_zero, List.set_cons_succ, List.getElem_toArray, List.getElem_cons_zero, List.getElem_cons_succ]
            refine wpAnyH_take (i := 6) (v := ?_) rfl (by kernel_rfl) (by kernel_rfl) (by kernel_rfl) (fun _ _ _ h => h) (Or.inl ⟨by rfl, ?_⟩) hHeld ?_
            rotate_left
            · intro v9 hS9
              try dsimp only at hS9
              go_simp
              try with_reducible rfl
            try simp only [Act.put, List.setIfInBounds_toArray, List.set_cons_zero, List.set_cons_succ, List.getElem_toArray, List.getElem_cons_zero, List.getElem_cons_succ]
            refine wpAnyH_done (by kernel_rfl) ?_ _
            obtain ⟨a8, c8, hv8, hw8⟩ := ho2.form
            have ha8 : a8 = some ⟨g2, 0, none⟩ := by injection hv8 with h1 h2 h3; exact h1.symm
            have HN8 : Hid (Nodes wz (some ⟨g2, 0, none⟩) (L ++ [⟨19, 1, v, (L.length : Int) - 1, bw, 0⟩])) := by
              rw [ha8] at hw8
              first | exact hw8.nodes | simpa using hw8.nodes
            have HB8 : Hid (Below wq.heap.size wq wz) := hHeld
            have HC8 : Hid (L.length + 1 ≤ cp2) := by
              have h9 := own_cap ho2
              show _ ≤ _
              simpa using h9
            clear hv8 hw8 ho2 hk2 hg2 hHeld ha8
            go_wp2_with fail
            go_meet
            case rel => exact ⟨g2, cp2, (by first | rfl | simp), HG2, HN8.out, HB8.out, HC8.out⟩
      ·
        go_simp
        refine hK.out _ _ (hHeld.alloc hHeld.size _) (fun hNext => ?_)
        clear hK K hHeld
        have hHeld := hNext
        clear hNext
        refine wpAnyH_ready (rs := [2]) (by kernel_rfl) (by simp) ?_
        refine (AllReadyH.cons rfl (fun K hK => ?_) AllReadyH.nil)
        ·
          refine step_app_nodes _ rfl _ _ rfl wq.heap.size (.slice (some ⟨wq.heap.size, 0, none⟩) 0 0) [] L g 0 c rfl rfl (fun i hi => (hvc i hi).below hHeld (hvc i hi).lt) hvp (World.ownsRow.alloc (own_lit _ _ _ rfl (Nat.le_refl _)) _) hHeld.size (by simp; omega) ?_
          intro g1 cp1 w1 ho1 hk1 hg1
          have HG1 : wq.heap.size ≤ g1 := by
            rcases hg1 with e | e
            · cases e; first | exact Nat.le_refl _ | exact Nat.le_succ _
            · exact Nat.le_trans hHeld.size e
          simp only [List.length_nil, Nat.zero_add, List.nil_append] at ho1
          simp only [List.length_nil, Nat.zero_add]
          have HK1 := hHeld.trans (hk1.below (fun k hk => by cases hk; first | exact Nat.le_refl _ | exact Nat.le_succ _) hHeld.size)
          refine hK.out _ _ (HK1) (fun hNext => ?_)
          clear hK K hHeld
          have hHeld := hNext
          clear hNext
          clear HK1
          try simp only [Act.put, List.setIfInBounds_toArray, List.set_cons_zero, List.set_cons_succ, List.getElem_toArray, List.getElem_cons_zero, List.getElem_cons_succ]
          refine wpAnyH_ready (rs := [5]) (by kernel_rfl) (by simp) ?_
          refine (AllReadyH.cons rfl (fun K hK => ?_) AllReadyH.nil)
          ·
            refine step_app_nodes _ rfl _ _ rfl wq.heap.size (.slice (some ⟨g1, 0, none⟩) L.length cp1) L [⟨19, 1, v, (L.length : Int) - 1, bw, 0⟩] (wq.heap.size + 1) 0 1 rfl rfl (node_kept hk1 (by rw [sz2]; omega) (own_ne (by omega)) (node_drew (node_new _ _ _ _ (by simp)))) (by simp) (ho1) hHeld.size (by first | (simp; done) | (simp; omega)) ?_
            intro g2 cp2 wz ho2 hk2 hg2
            have HG2 : wq.heap.size ≤ g2 := by
              rcases hg2 with e | e
              · cases e; first | exact HG1 | exact Nat.le_refl _ | exact Nat.le_succ _
              · exact Nat.le_trans hHeld.size e
            simp only [List.length_cons, List.length_nil, Nat.zero_add]
            have HK2 := hHeld.trans (hk2.below (fun k hk => by cases hk; first | exact HG1 | exact Nat.le_refl _ | exact Nat.le_succ _) hHeld.size)
            refine hK.out _ _ (HK2) (fun hNext => ?_)
            clear hK K hHeld
            have hHeld := hNext
            clear hNext
            clear HK2
            try simp only [Act.put, List.setIfInBounds_toArray, List.set_cons_zero, List.set_cons_succ, List.getElem_toArray, List.getElem_cons_zero, List.getElem_cons_succ]
            refine wpAnyH_take (i := 6) (v := ?_) rfl (by kernel_rfl) (by kernel_rfl) (by kernel_rfl) (fun _ _ _ h => h) (Or.inl ⟨by rfl, ?_⟩) hHeld ?_
            rotate_left
            · intro v9 hS9
              try dsimp only at hS9
              go_simp
              try with_reducible rfl
            try simp only [Act.put, List.setIfInBounds_toArray, List.set_cons_zero, List.set_cons_succ, List.getElem_toArray, List.getElem_cons_zero, List.getElem_cons_succ]
            refine wpAnyH_done (by kernel_rfl) ?_ _
            obtain ⟨a8, c8, hv8, hw8⟩ := ho2.form
            have ha8 : a8 = some ⟨g2, 0, none⟩ := by injection hv8 with h1 h2 h3; exact h1.symm
            have HN8 : Hid (Nodes wz (some ⟨g2, 0, none⟩) (L ++ [⟨19, 1, v, (L.length : Int) - 1, bw, 0⟩])) := by
              rw [ha8] at hw8
              first | exact hw8.nodes | simpa using hw8.nodes
            have HB8 : Hid (Below wq.heap.size wq wz) := hHeld
            have HC8 : Hid (L.length + 1 ≤ cp2) := by
              have h9 := own_cap ho2
              show _ ≤ _
              simpa using h9
            clear hv8 hw8 ho2 hk2 hg2 hHeld ha8
            go_wp2_with fail
            go_meet
            case rel => exact ⟨g2, cp2, (by first | rfl | simp), HG2, HN8.out, HB8.out, HC8.out⟩
    ·
      go_simp
      refine hK.out _ _ (hHeld.alloc hHeld.size _) (fun hNext => ?_)
      clear hK K hHeld
      have hHeld := hNext
      clear hNext
      refine wpAnyH_ready (rs := [0]) (by kernel_rfl) (by simp) ?_
      refine (AllReadyH.cons rfl (fun K hK => ?_) AllReadyH.nil)
      ·
        go_simp
        refine hK.out _ _ (hHeld.alloc hHeld.size _) (fun hNext => ?_)
        clear hK K hHeld
        have hHeld := hNext
        clear hNext
        refine wpAnyH_ready (rs := [2]) (by kernel_rfl) (by simp) ?_
        refine (AllReadyH.cons rfl (fun K hK => ?_) AllReadyH.nil)
        ·
          refine step_app_nodes _ rfl _ _ rfl wq.heap.size (.slice (some ⟨(wq.heap.size + 1), 0, none⟩) 0 0) [] L g 0 c rfl rfl (fun i hi => (hvc i hi).below hHeld (hvc i hi).lt) hvp (own_lit _ _ _ (by simp) (by omega)) hHeld.size (by simp; omega) ?_
          intro g1 cp1 w1 ho1 hk1 hg1
          have HG1 : wq.heap.size ≤ g1 := by
            rcases hg1 with e | e
            · cases e; first | exact Nat.le_refl _ | exact Nat.le_succ _
            · exact Nat.le_trans hHeld.size e
          simp only [List.length_nil, Nat.zero_add, List.nil_append] at ho1
          simp only [List.length_nil, Nat.zero_add]
          have HK1 := hHeld.trans (hk1.below (fun k hk => by cases hk; first | exact Nat.le_refl _ | exact Nat.le_succ _) hHeld.size)
          refine hK.out _ _ (HK1) (fun hNext => ?_)
          clear hK K hHeld
          have hHeld := hNext
          clear hNext
          clear HK1
          try simp only [Act.put, List.setIfInBounds_toArray, List.set_cons_zero, List.set_cons_succ, List.getElem_toArray, List.getElem_cons_zero, List.getElem_cons_succ]
          refine wpAnyH_ready (rs := [5]) (by kernel_rfl) (by simp) ?_
          refine (AllReadyH.cons rfl (fun K hK => ?_) AllReadyH.nil)
          ·
            refine step_app_nodes _ rfl _ _ rfl wq.heap.size (.slice (some ⟨g1, 0, none⟩) L.length cp1) L [⟨19, 1, v, (L.length : Int) - 1, bw, 0⟩] wq.heap.size 0 1 rfl rfl (node_kept hk1 (by rw [sz2]; omega) (own_ne (by omega)) (node_drew (node_kept (S := fun _ => False) ((Kept.refl (fun _ => False) _).alloc _) (by simp) (fun e => e) (node_new _ _ _ _ rfl)))) (by simp) (ho1) hHeld.size (by first | (simp; done) | (simp; omega)) ?_
            intro g2 cp2 wz ho2 hk2 hg2
            have HG2 : wq.heap.size ≤ g2 := by
              rcases hg2 with e | e
              · cases e; first | exact HG1 | exact Nat.le_refl _ | exact Nat.le_succ _
              · exact Nat.le_trans hHeld.size e
            simp only [List.length_cons, List.length_nil, Nat.zero_add]
            have HK2 := hHeld.trans (hk2.below (fun k hk => by cases hk; first | exact HG1 | exact Nat.le_refl _ | exact Nat.le_succ _) hHeld.size)
            refine hK.out _ _ (HK2) (fun hNext => ?_)
            clear hK K hHeld
            have hHeld := hNext
            clear hNext
            clear HK2
            try simp only [Act.put, List.setIfInBounds_toArray, List.set_cons_zero, List.set_cons_succ, List.getElem_toArray, List.getElem_cons_zero, List.getElem_cons_succ]
            refine wpAnyH_take (i := 6) (v := ?_) rfl (by kernel_rfl) (by kernel_rfl) (by kernel_rfl) (fun _ _ _ h => h) (Or.inl ⟨by rfl, ?_⟩) hHeld ?_
            rotate_left
            · intro v9 hS9
              try dsimp only at hS9
              go_simp
              try with_reducible rfl
            try simp only [Act.put, List.setIfInBounds_toArray, List.set_cons_zero, List.set_cons_succ, List.getElem_toArray, List.getElem_cons_zero, List.getElem_cons_succ]
            refine wpAnyH_done (by kernel_rfl) ?_ _
            obtain ⟨a8, c8, hv8, hw8⟩ := ho2.form
            have ha8 : a8 = some ⟨g2, 0, none⟩ := by injection hv8 with h1 h2 h3; exact h1.symm
            have HN8 : Hid (Nodes wz (some ⟨g2, 0, none⟩) (L ++ [⟨19, 1, v, (L.length : Int) - 1, bw, 0⟩])) := by
              rw [ha8] at hw8
              first | exact hw8.nodes | simpa using hw8.nodes
            have HB8 : Hid (Below wq.heap.size wq wz) := hHeld
            have HC8 : Hid (L.length + 1 ≤ cp2) := by
              have h9 := own_cap ho2
              show _ ≤ _
              simpa using h9
            clear hv8 hw8 ho2 hk2 hg2 hHeld ha8
            go_wp2_with fail
            go_meet
            case rel => exact ⟨g2, cp2, (by first | rfl | simp), HG2, HN8.out, HB8.out, HC8.out⟩
  case rest =>
    clear z0 z1 z2 z3 z4 z5
    obtain ⟨g8, c8, rfl, hg8, hn8, hb8, hc8⟩ := hcut
    obtain ⟨wr, hwr⟩ : ∃ wr : World, wr = wc.setCell ⟨gr, 0, none⟩ (.int .i64 20) := ⟨_, rfl⟩
    have HNR := HRN.out.1.below hb8 hgr
    have q0 := HNR.c0
    have f0 : wc.frozen? ⟨gr, 0, none⟩ = false := by rw [hb8.frozen hgr]; exact HRN.out.2.1 0
    have hkr : Kept (fun b => b = gr) wq wr := by rw [hwr]; exact Kept.setCell (S := fun b => b = gr) (Kept.ofBelow hb8) (p := ⟨gr, 0, none⟩) rfl _
    have hgg : g ≠ gr := fun h => by
      rcases HVQ.out.2 with h0 | ⟨vb, vo, he9, hvc⟩
      · omega
      · cases he9
        have h1 := (hvc 0 (by omega)).c0
        have h2 := HRN.out.1.c0
        subst h
        rcases HN0.out.2 with h0 | ⟨vb, vo, he9, hvc0⟩
        · omega
        · cases he9
          have := (hvc0 0 (by omega)).lt
          omega
    have hge : ge ≠ gr := fun h => by
      subst h
      rcases HI0.out.2 with h0 | ⟨vb, vo, he9, hvc0⟩
      · omega
      · cases he9
        have := lt_of_cell (hvc0 0 (by omega))
        dsimp only at this
        omega
    have HVR : Hid (Nodes wr (some ⟨g, 0, none⟩) L) := HVQ.out.kept hkr (fun x hx => by cases hx; exact hgg)
    have HIR : Hid (Ints wr (some ⟨ge, 0, none⟩) E) := by
      refine ⟨HIQ.out.1, ?_⟩
      rcases HIQ.out.2 with h0 | ⟨b9, o9, he9, hc9⟩
      · exact .inl h0
      · cases he9
        exact .inr ⟨ge, 0, rfl, fun i hi => by rw [hkr.cell (lt_of_cell (hc9 i hi)) hge]; exact hc9 i hi⟩
    have HUR : Hid (Nodes wr (some ⟨g8, 0, none⟩) (L ++ [⟨19, 1, v, (L.length : Int) - 1, bw, 0⟩])) := by
      refine hn8.kept (S := fun b => b = gr) ?_ (fun x hx => by cases hx; show ¬ g8 = gr; omega)
      rw [hwr]; exact Kept.setCell (S := fun b => b = gr) (Kept.refl _ _) (p := ⟨gr, 0, none⟩) rfl _
    have HBR : Hid (Below w0.heap.size w0 wr) := HBQ.out.trans (hkr.below (fun b (hb : b = gr) => by have := HRN.out.2.2; omega) HBQ.out.size)
    have HC8 : Hid (L.length + 1 ≤ c8) := hc8
    have hgr9 : gr < wr.heap.size := Nat.lt_of_lt_of_le hgr hkr.size
    have z0 : wr.cell? ⟨gr, 0, none⟩ = some (.int .i64 20) := by rw [hwr]; exact set_same q0
    have z1 : wr.cell? ⟨gr, 1, none⟩ = some (.int .i64 1) := by rw [hwr, set_other (by simp)]; exact HNR.c1
    have z2 : wr.cell? ⟨gr, 2, none⟩ = some (.int .i64 v) := by rw [hwr, set_other (by simp)]; exact HNR.c2
    have z3 : wr.cell? ⟨gr, 3, none⟩ = some (.int .i64 ((L.length : Int) - 1)) := by rw [hwr, set_other (by simp)]; exact HNR.c3
    have z4 : wr.cell? ⟨gr, 4, none⟩ = some (.int .i64 bw) := by rw [hwr, set_other (by simp)]; exact HNR.c4
    have z5 : wr.cell? ⟨gr, 5, none⟩ = some (.int .i64 0) := by rw [hwr, set_other (by simp)]; exact HNR.c5
    clear hn8 hb8 hc8 HNR hkr hgg hge HVQ HIQ HBQ
    go_upto_region 10 with fail
    rw [← hwr]
    clear hwr q0 f0
    go_cut [9] from 71 to 76 (fun s9 wc => ∃ g9 c9, s9 = .slice (some ⟨g9, 0, none⟩) (L.length + 1) c9 ∧ wr.heap.size ≤ g9 ∧ Nodes wc (some ⟨g9, 0, none⟩) (L ++ [⟨20, 1, v, (L.length : Int) - 1, bw, 0⟩]) ∧ Below wr.heap.size wr wc ∧ L.length + 1 ≤ c9)
    case first =>
      refine wp_region_held_drew (S := fun w' => Below wr.heap.size wr w') (by kernel_rfl) ((Below.refl _ _).drew) (fun hHeld => ?_)
      refine wpAnyH_take (i := 1) (v := ?_) rfl (by kernel_rfl) (by kernel_rfl) (by kernel_rfl) (fun _ _ _ h => h) (Or.inl ⟨by rfl, ?_⟩) hHeld ?_
      rotate_left
      · intro v9 hS9
        try dsimp only at hS9
        go_simp
        try with_reducible rfl
      try simp only [Act.put, List.setIfInBounds_toArray, List.set_cons_zero, List.set_cons_succ, List.getElem_toArray, List.getElem_cons_zero, List.getElem_cons_succ]
      refine wpAnyH_take (i := 3) (v := ?_) rfl (by kernel_rfl) (by kernel_rfl) (by kernel_rfl) (fun _ _ _ h => h) (Or.inl ⟨by rfl, ?_⟩) hHeld ?_
      rotate_left
      · intro v9 hS9
        try dsimp only at hS9
        have q0 : v9.cell? ⟨gr, 0, none⟩ = some (.int .i64 20) := by rw [hS9.cell hgr9]; exact z0
        have q1 : v9.cell? ⟨gr, 1, none⟩ = some (.int .i64 1) := by rw [hS9.cell hgr9]; exact z1
        have q2 : v9.cell? ⟨gr, 2, none⟩ = some (.int .i64 v) := by rw [hS9.cell hgr9]; exact z2
        have q3 : v9.cell? ⟨gr, 3, none⟩ = some (.int .i64 ((L.length : Int) - 1)) := by rw [hS9.cell hgr9]; exact z3
        have q4 : v9.cell? ⟨gr, 4, none⟩ = some (.int .i64 bw) := by rw [hS9.cell hgr9]; exact z4
        have q5 : v9.cell? ⟨gr, 5, none⟩ = some (.int .i64 0) := by rw [hS9.cell hgr9]; exact z5
        go_simp
        try with_reducible rfl
      try simp only [Act.put, List.setIfInBounds_toArray, List.set_cons_zero, List.set_cons_succ, List.getElem_toArray, List.getElem_cons_zero, List.getElem_cons_succ]
      have hvp : 0 < L.length := by omega
      rcases HVR.out.2 with h0 | ⟨vb, vo, he9, hvc⟩
      · omega
      cases he9
      refine wpAnyH_ready (rs := [0, 4]) (by kernel_rfl) (by simp) ?_
      refine (AllReadyH.cons rfl (fun K hK => ?_) (AllReadyH.cons rfl (fun K hK => ?_) AllReadyH.nil))
      ·
        go_simp
        refine hK.out _ _ (hHeld.alloc hHeld.size _) (fun hNext => ?_)
        clear hK K hHeld
        have hHeld := hNext
        clear hNext
        refine wpAnyH_ready (rs := [2, 4]) (by kernel_rfl) (by simp) ?_
        refine (AllReadyH.cons rfl (fun K hK => ?_) (AllReadyH.cons rfl (fun K hK => ?_) AllReadyH.nil))
        ·
          refine step_app_nodes _ rfl _ _ rfl wr.heap.size (.slice (some ⟨wr.heap.size, 0, none⟩) 0 0) [] L g 0 c rfl rfl (fun i hi => (hvc i hi).below hHeld (hvc i hi).lt) hvp (own_lit _ _ _ rfl (Nat.le_refl _)) hHeld.size (by simp; omega) ?_
          intro g1 cp1 w1 ho1 hk1 hg1
          have HG1 : wr.heap.size ≤ g1 := by
            rcases hg1 with e | e
            · cases e; first | exact Nat.le_refl _ | exact Nat.le_succ _
            · exact Nat.le_trans hHeld.size e
          simp only [List.length_nil, Nat.zero_add, List.nil_append] at ho1
          simp only [List.length_nil, Nat.zero_add]
          have HK1 := hHeld.trans (hk1.below (fun k hk => by cases hk; first | exact Nat.le_refl _ | exact Nat.le_succ _) hHeld.size)
          refine hK.out _ _ (HK1) (fun hNext => ?_)
          clear hK K hHeld
          have hHeld := hNext
          clear hNext
          clear HK1
          try simp only [Act.put, List.setIfInBounds_toArray, List.set_cons_zero, List.set_cons_succ, List.getElem_toArray, List.getElem_cons_zero, List.getElem_cons_succ]
          refine wpAnyH_ready (rs := [4]) (by kernel_rfl) (by simp) ?_
          refine (AllReadyH.cons rfl (fun K hK => ?_) AllReadyH.nil)
          ·
            go_simp
            refine hK.out _ _ (hHeld.alloc hHeld.size _) (fun hNext => ?_)
            clear hK K hHeld
            have hHeld := hNext
            clear hNext
            refine wpAnyH_ready (rs := [5]) (by kernel_rfl) (by simp) ?_
            refine (AllReadyH.cons rfl (fun K hK => ?_) AllReadyH.nil)
            ·
              refine step_app_nodes _ rfl _ _ rfl wr.heap.size (.slice (some ⟨g1, 0, none⟩) L.length cp1) L [⟨20, 1, v, (L.length : Int) - 1, bw, 0⟩] w1.heap.size 0 1 rfl rfl (node_new _ _ _ _ rfl) (by simp) (World.ownsRow.alloc ho1 _) hHeld.size (by first | (simp; done) | (simp; omega)) ?_
              intro g2 cp2 wz ho2 hk2 hg2
              have HG2 : wr.heap.size ≤ g2 := by
                rcases hg2 with e | e
                · cases e; first | exact HG1 | exact Nat.le_refl _ | exact Nat.le_succ _
                · exact Nat.le_trans hHeld.size e
              simp only [List.length_cons, List.length_nil, Nat.zero_add]
              have HK2 := hHeld.trans (hk2.below (fun k hk => by cases hk; first | exact HG1 | exact Nat.le_refl _ | exact Nat.le_succ _) hHeld.size)
              refine hK.out _ _ (HK2) (fun hNext => ?_)
              clear hK K hHeld
              have hHeld := hNext
              clear hNext
              clear HK2
              try simp only [Act.put, List.setIfInBounds_toArray, List.set_cons_zero, List.set_cons_succ, List.getElem_toArray, List.getElem_cons_zero, List.getElem_cons_succ]
              refine wpAnyH_take (i := 6) (v := ?_) rfl (by kernel_rfl) (by kernel_rfl) (by kernel_rfl) (fun _ _ _ h => h) (Or.inl ⟨by rfl, ?_⟩) hHeld ?_
              rotate_left
              · intro v9 hS9
                try dsimp only at hS9
                go_simp
                try with_reducible rfl
              try simp only [Act.put, List.setIfInBounds_toArray, List.set_cons_zero, List.set_cons_succ, List.getElem_toArray, List.getElem_cons_zero, List.getElem_cons_succ]
              refine wpAnyH_done (by kernel_rfl) ?_ _
              obtain ⟨a8, c8, hv8, hw8⟩ := ho2.form
              have ha8 : a8 = some ⟨g2, 0, none⟩ := by injection hv8 with h1 h2 h3; exact h1.symm
              have HN8 : Hid (Nodes wz (some ⟨g2, 0, none⟩) (L ++ [⟨20, 1, v, (L.length : Int) - 1, bw, 0⟩])) := by
                rw [ha8] at hw8
                first | exact hw8.nodes | simpa using hw8.nodes
              have HB8 : Hid (Below wr.heap.size wr wz) := hHeld
              have HC8 : Hid (L.length + 1 ≤ cp2) := by
                have h9 := own_cap ho2
                show _ ≤ _
                simpa using h9
              clear hv8 hw8 ho2 hk2 hg2 hHeld ha8
              go_wp2_with fail
              go_meet
              case rel => exact ⟨g2, cp2, (by first | rfl | simp), HG2, HN8.out, HB8.out, HC8.out⟩
        ·
          go_simp
          refine hK.out _ _ (hHeld.alloc hHeld.size _) (fun hNext => ?_)
          clear hK K hHeld
          have hHeld := hNext
          clear hNext
          refine wpAnyH_ready (rs := [2]) (by kernel_rfl) (by simp) ?_
          refine (AllReadyH.cons rfl (fun K hK => ?_) AllReadyH.nil)
          ·
            refine step_app_nodes _ rfl _ _ rfl wr.heap.size (.slice (some ⟨wr.heap.size, 0, none⟩) 0 0) [] L g 0 c rfl rfl (fun i hi => (hvc i hi).below hHeld (hvc i hi).lt) hvp (World.ownsRow.alloc (own_lit _ _ _ rfl (Nat.le_refl _)) _) hHeld.size (by simp; omega) ?_
            intro g1 cp1 w1 ho1 hk1 hg1
            have HG1 : wr.heap.size ≤ g1 := by
              rcases hg1 with e | e
              · cases e; first | exact Nat.le_refl _ | exact Nat.le_succ _
              · exact Nat.le_trans hHeld.size e
            simp only [List.length_nil, Nat.zero_add, List.nil_append] at ho1
            simp only [List.length_nil, Nat.zero_add]
            have HK1 := hHeld.trans (hk1.below (fun k hk => by cases hk; first | exact Nat.le_refl _ | exact Nat.le_succ _) hHeld.size)
            refine hK.out _ _ (HK1) (fun hNext => ?_)
            clear hK K hHeld
            have hHeld := hNext
            clear hNext
            clear HK1
            try simp only [Act.put, List.setIfInBounds_toArray, List.set_cons_zero, List.set_cons_succ, List.getElem_toArray, List.getElem_cons_zero, List.getElem_cons_succ]
            refine wpAnyH_ready (rs := [5]) (by kernel_rfl) (by simp) ?_
            refine (AllReadyH.cons rfl (fun K hK => ?_) AllReadyH.nil)
            ·
              refine step_app_nodes _ rfl _ _ rfl wr.heap.size (.slice (some ⟨g1, 0, none⟩) L.length cp1) L [⟨20, 1, v, (L.length : Int) - 1, bw, 0⟩] (wr.heap.size + 1) 0 1 rfl rfl (node_kept hk1 (by rw [sz2]; omega) (own_ne (by omega)) (node_drew (node_new _ _ _ _ (by simp)))) (by simp) (ho1) hHeld.size (by first | (simp; done) | (simp; omega)) ?_
              intro g2 cp2 wz ho2 hk2 hg2
              have HG2 : wr.heap.size ≤ g2 := by
                rcases hg2 with e | e
                · cases e; first | exact HG1 | exact Nat.le_refl _ | exact Nat.le_succ _
                · exact Nat.le_trans hHeld.size e
              simp only [List.length_cons, List.length_nil, Nat.zero_add]
              have HK2 := hHeld.trans (hk2.below (fun k hk => by cases hk; first | exact HG1 | exact Nat.le_refl _ | exact Nat.le_succ _) hHeld.size)
              refine hK.out _ _ (HK2) (fun hNext => ?_)
              clear hK K hHeld
              have hHeld := hNext
              clear hNext
              clear HK2
              try simp only [Act.put, List.setIfInBounds_toArray, List.set_cons_zero, List.set_cons_succ, List.getElem_toArray, List.getElem_cons_zero, List.getElem_cons_succ]
              refine wpAnyH_take (i := 6) (v := ?_) rfl (by kernel_rfl) (by kernel_rfl) (by kernel_rfl) (fun _ _ _ h => h) (Or.inl ⟨by rfl, ?_⟩) hHeld ?_
              rotate_left
              · intro v9 hS9
                try dsimp only at hS9
                go_simp
                try with_reducible rfl
              try simp only [Act.put, List.setIfInBounds_toArray, List.set_cons_zero, List.set_cons_succ, List.getElem_toArray, List.getElem_cons_zero, List.getElem_cons_succ]
              refine wpAnyH_done (by kernel_rfl) ?_ _
              obtain ⟨a8, c8, hv8, hw8⟩ := ho2.form
              have ha8 : a8 = some ⟨g2, 0, none⟩ := by injection hv8 with h1 h2 h3; exact h1.symm
              have HN8 : Hid (Nodes wz (some ⟨g2, 0, none⟩) (L ++ [⟨20, 1, v, (L.length : Int) - 1, bw, 0⟩])) := by
                rw [ha8] at hw8
                first | exact hw8.nodes | simpa using hw8.nodes
              have HB8 : Hid (Below wr.heap.size wr wz) := hHeld
              have HC8 : Hid (L.length + 1 ≤ cp2) := by
                have h9 := own_cap ho2
                show _ ≤ _
                simpa using h9
              clear hv8 hw8 ho2 hk2 hg2 hHeld ha8
              go_wp2_with fail
              go_meet
              case rel => exact ⟨g2, cp2, (by first | rfl | simp), HG2, HN8.out, HB8.out, HC8.out⟩
      ·
        go_simp
        refine hK.out _ _ (hHeld.alloc hHeld.size _) (fun hNext => ?_)
        clear hK K hHeld
        have hHeld := hNext
        clear hNext
        refine wpAnyH_ready (rs := [0]) (by kernel_rfl) (by simp) ?_
        refine (AllReadyH.cons rfl (fun K hK => ?_) AllReadyH.nil)
        ·
          go_simp
          refine hK.out _ _ (hHeld.alloc hHeld.size _) (fun hNext => ?_)
          clear hK K hHeld
          have hHeld := hNext
          clear hNext
          refine wpAnyH_ready (rs := [2]) (by kernel_rfl) (by simp) ?_
          refine (AllReadyH.cons rfl (fun K hK => ?_) AllReadyH.nil)
          ·
            refine step_app_nodes _ rfl _ _ rfl wr.heap.size (.slice (some ⟨(wr.heap.size + 1), 0, none⟩) 0 0) [] L g 0 c rfl rfl (fun i hi => (hvc i hi).below hHeld (hvc i hi).lt) hvp (own_lit _ _ _ (by simp) (by omega)) hHeld.size (by simp; omega) ?_
            intro g1 cp1 w1 ho1 hk1 hg1
            have HG1 : wr.heap.size ≤ g1 := by
              rcases hg1 with e | e
              · cases e; first | exact Nat.le_refl _ | exact Nat.le_succ _
              · exact Nat.le_trans hHeld.size e
            simp only [List.length_nil, Nat.zero_add, List.nil_append] at ho1
            simp only [List.length_nil, Nat.zero_add]
            have HK1 := hHeld.trans (hk1.below (fun k hk => by cases hk; first | exact Nat.le_refl _ | exact Nat.le_succ _) hHeld.size)
            refine hK.out _ _ (HK1) (fun hNext => ?_)
            clear hK K hHeld
            have hHeld := hNext
            clear hNext
            clear HK1
            try simp only [Act.put, List.setIfInBounds_toArray, List.set_cons_zero, List.set_cons_succ, List.getElem_toArray, List.getElem_cons_zero, List.getElem_cons_succ]
            refine wpAnyH_ready (rs := [5]) (by kernel_rfl) (by simp) ?_
            refine (AllReadyH.cons rfl (fun K hK => ?_) AllReadyH.nil)
            ·
              refine step_app_nodes _ rfl _ _ rfl wr.heap.size (.slice (some ⟨g1, 0, none⟩) L.length cp1) L [⟨20, 1, v, (L.length : Int) - 1, bw, 0⟩] wr.heap.size 0 1 rfl rfl (node_kept hk1 (by rw [sz2]; omega) (own_ne (by omega)) (node_drew (node_kept (S := fun _ => False) ((Kept.refl (fun _ => False) _).alloc _) (by simp) (fun e => e) (node_new _ _ _ _ rfl)))) (by simp) (ho1) hHeld.size (by first | (simp; done) | (simp; omega)) ?_
              intro g2 cp2 wz ho2 hk2 hg2
              have HG2 : wr.heap.size ≤ g2 := by
                rcases hg2 with e | e
                · cases e; first | exact HG1 | exact Nat.le_refl _ | exact Nat.le_succ _
                · exact Nat.le_trans hHeld.size e
              simp only [List.length_cons, List.length_nil, Nat.zero_add]
              have HK2 := hHeld.trans (hk2.below (fun k hk => by cases hk; first | exact HG1 | exact Nat.le_refl _ | exact Nat.le_succ _) hHeld.size)
              refine hK.out _ _ (HK2) (fun hNext => ?_)
              clear hK K hHeld
              have hHeld := hNext
              clear hNext
              clear HK2
              try simp only [Act.put, List.setIfInBounds_toArray, List.set_cons_zero, List.set_cons_succ, List.getElem_toArray, List.getElem_cons_zero, List.getElem_cons_succ]
              refine wpAnyH_take (i := 6) (v := ?_) rfl (by kernel_rfl) (by kernel_rfl) (by kernel_rfl) (fun _ _ _ h => h) (Or.inl ⟨by rfl, ?_⟩) hHeld ?_
              rotate_left
              · intro v9 hS9
                try dsimp only at hS9
                go_simp
                try with_reducible rfl
              try simp only [Act.put, List.setIfInBounds_toArray, List.set_cons_zero, List.set_cons_succ, List.getElem_toArray, List.getElem_cons_zero, List.getElem_cons_succ]
              refine wpAnyH_done (by kernel_rfl) ?_ _
              obtain ⟨a8, c8, hv8, hw8⟩ := ho2.form
              have ha8 : a8 = some ⟨g2, 0, none⟩ := by injection hv8 with h1 h2 h3; exact h1.symm
              have HN8 : Hid (Nodes wz (some ⟨g2, 0, none⟩) (L ++ [⟨20, 1, v, (L.length : Int) - 1, bw, 0⟩])) := by
                rw [ha8] at hw8
                first | exact hw8.nodes | simpa using hw8.nodes
              have HB8 : Hid (Below wr.heap.size wr wz) := hHeld
              have HC8 : Hid (L.length + 1 ≤ cp2) := by
                have h9 := own_cap ho2
                show _ ≤ _
                simpa using h9
              clear hv8 hw8 ho2 hk2 hg2 hHeld ha8
              go_wp2_with fail
              go_meet
              case rel => exact ⟨g2, cp2, (by first | rfl | simp), HG2, HN8.out, HB8.out, HC8.out⟩
    case rest =>
      clear z0 z1 z2 z3 z4 z5
      obtain ⟨g9, c9, rfl, hg9, hn9, hb9, hc9⟩ := hcut
      obtain ⟨n19, hn19⟩ : ∃ n : Nd, n = ⟨19, 1, v, (L.length : Int) - 1, bw, 0⟩ := ⟨_, rfl⟩
      obtain ⟨n20, hn20⟩ : ∃ n : Nd, n = ⟨20, 1, v, (L.length : Int) - 1, bw, 0⟩ := ⟨_, rfl⟩
      rw [← hn20] at hn9
      rw [← hn19] at HUR
      have HV : Hid ((valueL (L ++ [n20]) E).isSome = (valueL (L ++ [n19]) E).isSome ∧ ∀ x y, valueL (L ++ [n19]) E = some x → valueL (L ++ [n20]) E = some y → E.length = 8 ∧ (∀ k : Nat, k < 2 ^ bw.toNat → valueL L (E.set v.toNat (k : Int)) = some (vT (root L) (E.set v.toNat (k : Int)))) ∧ x = allN (fun k => vT (root L) (E.set v.toNat (k : Int))) (2 ^ bw.toNat) ∧ y = anyN (fun k => vT (root L) (E.set v.toNat (k : Int))) (2 ^ bw.toNat)) := by
        rw [hn19, hn20]
        exact inst_facts HT.out HW1.out (by omega) ⟨hv0, by omega⟩ ⟨hbw1, by omega⟩
      have HN9 : Hid (Nodes wc (some ⟨g9, 0, none⟩) (L ++ [n20])) := hn9
      have HU9 : Hid (Nodes wc (some ⟨g8, 0, none⟩) (L ++ [n19])) := HUR.out.below hb9
      have HL9 : Hid (Nodes wc (some ⟨g, 0, none⟩) L) := HVR.out.below hb9
      have HI9 : Hid (Ints wc (some ⟨ge, 0, none⟩) E) := HIR.out.below hb9
      have HB9 : Hid (Below w0.heap.size w0 wc) := HBR.out.trans (hb9.mono HBR.out.size)
      have HC9 : Hid (L.length + 1 ≤ c9) := hc9
      clear hn9 hb9 hc9 HUR HVR HIR HBR hn19 hn20
      have H19 : Hid ((L ++ [n19]).length = L.length + 1) := by show _ = _; simp
      have H20 : Hid ((L ++ [n20]).length = L.length + 1) := by show _ = _; simp
      generalize hU : L ++ [n19] = U at HV HU9 H19
      generalize hV2 : L ++ [n20] = V at HV HN9 H20
      clear hU hV2
      have HCA : Hid (∀ W ae (e : List Int) ce, Nodes W (some ⟨g8, 0, none⟩) U → Ints W ae e → e.length ≤ ce → Calls Tryz.prog 14 #[.slice (some ⟨g8, 0, none⟩) (L.length + 1) c8, .slice ae e.length ce] W fun x w' => x = .returned (.tuple #[.int .i64 ((valueL U e).getD 0), .bool (valueL U e).isSome]) ∧ Below W.heap.size W w') := fun W ae e ce h1 h2 h3 => by
        have := HVA.out W (some ⟨g8, 0, none⟩) ae U e c8 ce h1 (by rw [H19.out]; exact HC8.out) (by rw [H19.out]; omega) h2 h3
        rw [H19.out] at this
        exact this
      have HCB : Hid (∀ W ae (e : List Int) ce, Nodes W (some ⟨g9, 0, none⟩) V → Ints W ae e → e.length ≤ ce → Calls Tryz.prog 14 #[.slice (some ⟨g9, 0, none⟩) (L.length + 1) c9, .slice ae e.length ce] W fun x w' => x = .returned (.tuple #[.int .i64 ((valueL V e).getD 0), .bool (valueL V e).isSome]) ∧ Below W.heap.size W w') := fun W ae e ce h1 h2 h3 => by
        have := HVA.out W (some ⟨g9, 0, none⟩) ae V e c9 ce h1 (by rw [H20.out]; exact HC9.out) (by rw [H20.out]; omega) h2 h3
        rw [H20.out] at this
        exact this
      have HCS : Hid (∀ W ae (e : List Int) ce, Nodes W (some ⟨g8, 0, none⟩) U → Ints W ae e → Calls Tryz.prog 15 #[.slice (some ⟨g8, 0, none⟩) (L.length + 1) c8, .slice ae e.length ce] W fun x w' => x = .returned (.tuple #[.int .i64 ((valueL U e).getD 0), .bool (valueL U e).isSome]) ∧ Below W.heap.size W w') := fun W ae e ce h1 h2 => by
        have := sValue W (some ⟨g8, 0, none⟩) ae U e c8 ce h1 h2
        rw [H19.out] at this
        exact this
      go_wp2_with fail
      refine (HCA.out wc _ E ce HU9.out HI9.out HCE.out).mono ?_
      rintro e wa ⟨rfl, hba⟩
      have HNa : Hid (Nodes wa (some ⟨g9, 0, none⟩) V) := HN9.out.below hba
      have HUa : Hid (Nodes wa (some ⟨g8, 0, none⟩) U) := HU9.out.below hba
      have HLa : Hid (Nodes wa (some ⟨g, 0, none⟩) L) := HL9.out.below hba
      have HIa : Hid (Ints wa (some ⟨ge, 0, none⟩) E) := HI9.out.below hba
      have HBa : Hid (Below w0.heap.size w0 wa) := HB9.out.trans (hba.mono HB9.out.size)
      clear hba HN9 HU9 HL9 HI9 HB9
      go_wp2_with fail
      refine (HCB.out wa _ E ce HNa.out HIa.out HCE.out).mono ?_
      rintro e wb ⟨rfl, hbb⟩
      have HUb : Hid (Nodes wb (some ⟨g8, 0, none⟩) U) := HUa.out.below hbb
      have HLb : Hid (Nodes wb (some ⟨g, 0, none⟩) L) := HLa.out.below hbb
      have HIb : Hid (Ints wb (some ⟨ge, 0, none⟩) E) := HIa.out.below hbb
      have HBb : Hid (Below w0.heap.size w0 wb) := HBa.out.trans (hbb.mono HBa.out.size)
      clear hbb HNa HUa HLa HIa HBa
      go_wp2_with fail
      refine (HCS.out wb _ E ce HUb.out HIb.out).mono ?_
      rintro e wD ⟨rfl, hbd⟩
      have HLd : Hid (Nodes wD (some ⟨g, 0, none⟩) L) := HLb.out.below hbd
      have HId : Hid (Ints wD (some ⟨ge, 0, none⟩) E) := HIb.out.below hbd
      have HBd : Hid (Below w0.heap.size w0 wD) := HBb.out.trans (hbd.mono HBb.out.size)
      clear hbd HUb HLb HIb HBb HCA HCB HCS
      obtain ⟨hv1', hv2'⟩ := HV.out
      have HV2 : Hid (∀ x y, valueL U E = some x → valueL V E = some y → E.length = 8 ∧ (∀ k : Nat, k < 2 ^ bw.toNat → valueL L (E.set v.toNat (k : Int)) = some (vT (root L) (E.set v.toNat (k : Int)))) ∧ x = allN (fun k => vT (root L) (E.set v.toNat (k : Int))) (2 ^ bw.toNat) ∧ y = anyN (fun k => vT (root L) (E.set v.toNat (k : Int))) (2 ^ bw.toNat)) := hv2'
      rw [hv1']
      clear hv2' HV
      cases hU : valueL U E with
      | none =>
        simp only [Option.getD_none, Option.isSome_none]
        go_wp2
        go_ret
        exact ⟨rfl, HBd.out⟩
      | some x =>
        rw [hU] at hv1'
        obtain ⟨y, hy⟩ := Option.isSome_iff_exists.1 hv1'
        rw [hy]
        simp only [Option.getD_some, Option.isSome_some]
        obtain ⟨he, hk1, hx, hyy⟩ := HV2.out x y hU hy
        have HVK : Hid (∀ k : Nat, k < 2 ^ bw.toNat → valueL L (E.set v.toNat (k : Int)) = some (vT (root L) (E.set v.toNat (k : Int)))) := hk1
        obtain ⟨f, hf⟩ : ∃ f : Nat → Int, f = fun (k : Nat) => vT (root L) (E.set v.toNat (k : Int)) := ⟨_, rfl⟩
        rw [← hf] at hx hyy
        have HFK : Hid (∀ k : Nat, k < 2 ^ bw.toNat → valueL L (E.set v.toNat (k : Int)) = some (f k)) := fun k hk => by rw [hf]; exact HVK.out k hk
        have HFB : Hid (∀ k : Nat, k < 2 ^ bw.toNat → f k = 0 ∨ f k = 1) := fun k hk => by
          have h1 := wok_iff.1 (value_wok (HFK.out k hk))
          rw [HW1.out] at h1
          have h4 : p2 (1 : Int).toNat = 2 := rfl
          rw [h4] at h1
          omega
        have HXX : Hid (x = allN f (2 ^ bw.toNat) ∧ y = anyN f (2 ^ bw.toNat)) := ⟨hx, hyy⟩
        have HE8 : Hid (E.length = 8) := he
        have hM : ((2 ^ bw.toNat : Nat) : Int) = p2 bw.toNat := by unfold p2; simp
        obtain ⟨M, hMM⟩ : ∃ M : Nat, M = 2 ^ bw.toNat := ⟨_, rfl⟩
        rw [← hMM] at HFK HFB HXX hM
        have hM9 : M ≤ 8 := by
          rw [hMM]
          exact Nat.pow_le_pow_right (by omega) (show bw.toNat ≤ 3 by omega)
        have HPW : Hid (∀ W, Calls Tryz.prog 16 #[.int .i64 bw] W fun e w' => e = .returned (.int .i64 (M : Int)) ∧ w' = W) := fun W => by rw [hM]; exact lpow bw W (by omega) (by omega)
        clear hU hy hk1 hx hyy hf HVK HV2 hM hMM he hv1'
        have hv8 : v < (E.length : Int) := by omega
        go_wp2
        go_loopw [16, 17, 18] (fun ea on i wr => ∃ k : Nat, k ≤ M ∧ i = .int .i64 (k : Int) ∧ ea = .int .i64 (allN f k) ∧ on = .int .i64 (anyN f k) ∧ Below wD.heap.size wD wr) (fun _ _ i _ => M - (intOf i).toNat)
        case atStart => exact ⟨0, Nat.zero_le _, rfl, rfl, rfl, Below.refl _ _⟩
        case round =>
          obtain ⟨k, hk, rfl, rfl, rfl, hbk⟩ := hrel
          have HBK : Hid (Below wD.heap.size wD wr) := hbk
          have HLK : Hid (Nodes wr (some ⟨g, 0, none⟩) L) := HLd.out.below hbk
          have HIK : Hid (Ints wr (some ⟨ge, 0, none⟩) E) := HId.out.below hbk
          have HB0 : Hid (Below w0.heap.size w0 wr) := HBd.out.trans (hbk.mono HBd.out.size)
          clear hbk
          by_cases hlt : k < M
          · have hlz : (k : Int) < (M : Int) := by omega
            rcases HIK.out.2 with h0 | ⟨eb, eo, he9, hce9⟩
            · omega
            cases he9
            have hal : Below wr.heap.size wr (wr.alloc (.cells #[] 3)) := (Below.refl _ _).alloc (Nat.le_refl _) _
            have HEC : Hid (∀ j (h : j < E.length), (wr.alloc (.cells #[] 3)).cell? ⟨ge, 0 + j, none⟩ = some (.int .i64 E[j])) := fun j h => by rw [hal.cell (lt_of_cell (hce9 j h))]; exact hce9 j h
            have HLIT : Hid (Ows (wr.alloc (.cells #[] 3)) wr.heap.size (.slice (some ⟨wr.heap.size, 0, none⟩) 0 0) []) := Ows.lit wr _ (Nat.le_refl _)
            clear hce9
            have hf01 := HFB.out k hlt
            have HAN : Hid (nAnd (allN f k) (f k) = allN f (k + 1) ∧ nOr (anyN f k) (f k) = anyN f (k + 1)) := step_bits hf01
            have hbA := allN_bit f k
            have hbO := anyN_bit f k
            have HBA : Hid (bits .and .i64 (allN f k) (f k) = allN f (k + 1)) := by
              show _ = _
              rw [← HAN.out.1]; exact band (by omega) (by omega)
            have HBO : Hid (bits .or .i64 (anyN f k) (f k) = anyN f (k + 1)) := by
              show _ = _
              rw [← HAN.out.2]; exact bor (by omega) (by omega)
            go_wp2_with (first | (go_at_call 16; refine (HPW.out _).mono ?_; rintro e w' ⟨rfl, hw'⟩; have hw'' := hw'.symm; clear hw'; subst hw'') | (at_builtin; go_must (refine Sv6.app_intsO _ rfl _ _ rfl wr.heap.size (.slice (some ⟨wr.heap.size, 0, none⟩) 0 0) [] E ge 0 ce rfl rfl HEC.out (by omega) HLIT.out (by simp) (by simp; omega) ?_; intro g5 cp5 w5 ho5 hk5; simp only [List.length_nil, Nat.zero_add, List.nil_append] at ho5 ⊢; have HO5 : Hid (Ows w5 wr.heap.size (.slice (some ⟨g5, 0, none⟩) E.length cp5) E) := ho5; have HK5 : Hid (Below wr.heap.size wr w5) := hal.trans (hk5.below (fun b hb => (HLIT.out.lt b hb).1) (by simp)); have HR5 := row_of ho5 (by omega); have s1 := (HR5.1 v.toNat (by omega)).1; have s2 := (HR5.1 v.toNat (by omega)).2; have HR6 : Hid (Row w5 g5 E.length (fun i => .int .i64 (wd E (i : Int))) ∧ wr.heap.size ≤ g5 ∧ g5 < w5.heap.size ∧ E.length ≤ cp5) := HR5; clear ho5 hk5 hal HR5)))
            obtain ⟨w6, hw6⟩ : ∃ w6 : World, w6 = w5.setCell ⟨g5, v.toNat, none⟩ (.int .i64 (k : Int)) := ⟨_, rfl⟩
            have HK6 : Hid (Below wr.heap.size wr w6) := by
              rw [hw6]
              exact HK5.out.trans ((Kept.setCell (S := fun b => b = g5) (Kept.refl _ w5) (p := ⟨g5, v.toNat, none⟩) rfl _).below (fun b (hb : b = g5) => by have := HR6.out.2.1; omega) HK5.out.size)
            have HE6 : Hid (Ints w6 (some ⟨g5, 0, none⟩) (E.set v.toNat (k : Int))) := by
              refine ⟨by rw [List.length_set]; exact HIK.out.1, .inr ⟨g5, 0, rfl, fun i hi => ?_⟩⟩
              rw [List.length_set] at hi
              have h9 := (row_set_int HR6.out.1 rfl (p := v.toNat) (by omega) (k : Int)) i hi
              rw [Nat.zero_add, hw6, h9.1, wd_get (by rw [List.length_set]; exact hi)]
            have HCP : Hid (E.length ≤ cp5) := HR6.out.2.2.2
            have HL6 : Hid (Nodes w6 (some ⟨g, 0, none⟩) L) := HLK.out.below HK6.out
            have HI6 : Hid (Ints w6 (some ⟨ge, 0, none⟩) E) := HIK.out.below HK6.out
            rw [← hw6]
            clear hw6 HR6 HO5 HK5 s1 s2 HLIT HEC
            refine (HRP.out w6 _ L c v (k : Int) HL6.out HCL.out (by omega)).mono ?_
            rintro e w7 ⟨⟨au, cu, rfl, hwu, hcu⟩, hb7⟩
            have HUU : Hid (Nodes w7 au (replO L v (k : Int))) := hwu.nodes
            have HCU : Hid ((replO L v (k : Int)).length ≤ cu) := hcu
            have HUL : Hid ((replO L v (k : Int)).length ≤ L.length) := replO_le L v k
            have HL7 : Hid (Nodes w7 (some ⟨g, 0, none⟩) L) := HL6.out.below hb7
            have HI7 : Hid (Ints w7 (some ⟨ge, 0, none⟩) E) := HI6.out.below hb7
            have HE7 : Hid (Ints w7 (some ⟨g5, 0, none⟩) (E.set v.toNat (k : Int))) := HE6.out.below hb7
            have HK7 : Hid (Below wr.heap.size wr w7) := HK6.out.trans (hb7.mono HK6.out.size)
            clear hwu hcu hb7 HL6 HI6 HE6 HK6
            have HVW : Hid (Calls Tryz.prog 14 #[.slice (some ⟨g, 0, none⟩) L.length c, .slice (some ⟨g5, 0, none⟩) E.length cp5] w7 fun x w' => x = .returned (.tuple #[.int .i64 (f k), .bool true]) ∧ Below w7.heap.size w7 w') := by
              have h9 := HVA.out w7 (some ⟨g, 0, none⟩) (some ⟨g5, 0, none⟩) L (E.set v.toNat (k : Int)) c cp5 HL7.out HCL.out (by omega) HE7.out (by rw [List.length_set]; exact HCP.out)
              rw [List.length_set, HFK.out k hlt] at h9
              exact h9
            go_wp2_with fail
            refine HVW.out.mono ?_
            rintro e w8 ⟨rfl, hb8⟩
            have HU8 : Hid (Nodes w8 au (replO L v (k : Int))) := HUU.out.below hb8
            have HI8 : Hid (Ints w8 (some ⟨ge, 0, none⟩) E) := HI7.out.below hb8
            have HK8 : Hid (Below wr.heap.size wr w8) := HK7.out.trans (hb8.mono HK7.out.size)
            clear hb8 HVW HUU HL7 HI7 HE7 HK7
            have HFI : Hid (∀ W, Below wr.heap.size wr W → Below wD.heap.size wD W) := fun W hW => HBK.out.trans (hW.mono HBK.out.size)
            generalize hAk : allN f k = ak at hbA HBA ⊢
            generalize hOk : anyN f k = ok at hbO HBO ⊢
            obtain ⟨fk, hfk⟩ : ∃ fk : Int, fk = f k := ⟨_, rfl⟩
            rw [← hfk] at hf01 HBA HBO ⊢
            have HFE : Hid (fk = f k) := hfk
            clear hAk hOk hfk HAN
            cases hR : replL L v (k : Int) with
            | none =>
              simp only [Option.isSome_none]
              go_wp2
              go_roundw
              case rel => exact ⟨k + 1, by omega, by go_num, by rw [← HBA.out], by rw [← HBO.out], HFI.out _ HK8.out⟩
              case measure => simp [intOf]; omega
            | some u =>
              have HRO : Hid (replO L v (k : Int) = u) := by show _ = _; unfold replO; rw [hR]; rfl
              simp only [Option.isSome_some]
              go_wp2_with fail
              refine (HVA.out w8 au (some ⟨ge, 0, none⟩) (replO L v (k : Int)) E cu ce HU8.out HCU.out (by have := HUL.out; omega) HI8.out HCE.out).mono ?_
              rintro e w9 ⟨rfl, hb9⟩
              have HK9 : Hid (Below wr.heap.size wr w9) := HK8.out.trans (hb9.mono HK8.out.size)
              clear hb9
              cases hB : valueL (replO L v (k : Int)) E with
              | none =>
                simp only [Option.getD_none, Option.isSome_none]
                go_wp2
                go_roundw
                case rel => exact ⟨k + 1, by omega, by go_num, by rw [← HBA.out], by rw [← HBO.out], HFI.out _ HK9.out⟩
                case measure => simp [intOf]; omega
              | some b =>
                have hbf : b = fk := by
                  rw [HRO.out] at hB
                  rw [HFE.out]
                  exact (value_repl ⟨hv0, by omega⟩ hR (HFK.out k hlt) hB).symm
                subst hbf
                simp only [Option.getD_some, Option.isSome_some]
                have hne : (b != b) = false := by simp
                go_wp2
                go_roundw
                case rel => exact ⟨k + 1, by omega, by go_num, by rw [← HBA.out], by rw [← HBO.out], HFI.out _ HK9.out⟩
                case measure => simp [intOf]; omega
          · have hkM : k = M := by omega
            obtain ⟨hx, hyy⟩ := HXX.out
            rw [← hkM] at hx hyy
            have hxe : (x == allN f k) = true := by rw [hx]; simp
            have hye : (y == anyN f k) = true := by rw [hyy]; simp
            have hlz : ¬ (k : Int) < (M : Int) := by omega
            clear hx hyy hkM
            go_wp2_with (go_at_call 16; refine (HPW.out _).mono ?_; rintro e w' ⟨rfl, hw'⟩; have hw'' := hw'.symm; clear hw'; subst hw'')
            go_ret
            exact ⟨ret_bool (by first | exact hye | simp), HB0.out⟩

end Go.Proofs.YtdmogjhabladcaaGreat.Li1
