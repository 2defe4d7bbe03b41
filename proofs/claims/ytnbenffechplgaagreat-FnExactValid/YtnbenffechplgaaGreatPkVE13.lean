/- Small texts of mine, one behind the other. -/
import Derived.Deep.RegionHeld3
import Derived.Deep.CutBlock
import Derived.Test.YtnbenffechplgaaGreatPkVE3
import Derived.Test.YtnbenffechplgaaGreatSp8
import Derived.Test.YtnbenffechplgaaGreatPkVE5
import Derived.Test.YtnbenffechplgaaGreatAm5
import Derived.Test.YtnbenffechplgaaGreatPkVE11
/- The walk of the model's list of free variables. -/
namespace Go.Proofs.YtnbenffechplgaaGreat.Sp9
open Go.RowKit
open Nd0 Nd1 Tm0 Tm1 Tm4 Ap0 Ap1 Sp2 Sp4 Sp8
set_option linter.unusedVariables false

theorem ows_empty {w : World} {B b : Nat} (h : Ows w B (.slice (some ⟨b, 0, none⟩) 0 0) []) (x : Nat) : w.cell? ⟨b, x, none⟩ = none := by
  rcases h.2 with ⟨h0, _⟩ | ⟨g, cap, cur, hv, hb, hg, hn, hm, hs, ht⟩
  · cases h0
  · simp only [Value.slice.injEq, Option.some.injEq, Addr.mk.injEq] at hv
    obtain ⟨⟨rfl, _⟩, _, rfl⟩ := hv
    rw [cell_of_row w b x cur _ _ hg]
    have : cur.size = 0 := by simpa using hs
    simp [this]

set_option maxHeartbeats 2000000 in
theorem sFree (w : World) (a : Option Addr) (l : List Nd) (c : Nat) (hN : Nodes w a l) :
    Calls Tryz.prog 22 #[.slice a l.length c] w fun e w' => (∃ v, e = .returned v ∧ Ows w' w.heap.size v (freeL l)) ∧ Below w.heap.size w w' := by
  have HN : Hid (Nodes w a l) := hN
  clear hN
  have hlit : Ows (w.alloc (.cells #[] 3)) w.heap.size (.slice (some ⟨w.heap.size, 0, none⟩) 0 0) [] := Ows.lit w _ (Nat.le_refl _)
  have HLIT : Hid (Ows (w.alloc (.cells #[] 3)) w.heap.size (.slice (some ⟨w.heap.size, 0, none⟩) 0 0) []) := hlit
  clear hlit
  have HB0 : Hid (Below w.heap.size w (w.alloc (.cells #[] 3))) := (Below.refl _ _).alloc (Nat.le_refl _) _
  cases hT : termOk l
  · have HR : Hid (freeL l = []) := by show freeL l = []; simp [freeL, hT]
    go_enter Tryz.func22, Tryz.ntmps22
    go_wp2_with fail
    refine (sTermOk _ a l c (HN.out.below HB0.out)).mono ?_
    rintro e w1 ⟨rfl, hb1⟩
    have HB1 : Hid (Below (w.alloc (.cells #[] 3)).heap.size (w.alloc (.cells #[] 3)) w1) := hb1
    clear hb1
    go_wp2
    go_ret
    refine ⟨⟨_, rfl, ?_⟩, HB0.out.trans (HB1.out.mono HB0.out.size)⟩
    rw [HR.out]
    exact HLIT.out.kept (S := fun _ => False) (Kept.ofBelow HB1.out) (fun _ _ h => h)
  · have HR : Hid (freeL l = freeTo l 8) := by show freeL l = _; simp [freeL, hT]
    have HT : Hid (termOk l = true) := hT
    obtain ⟨hl1, hl2⟩ := term_len hT
    go_enter Tryz.func22, Tryz.ntmps22
    go_wp2_with fail
    refine (sTermOk _ a l c (HN.out.below HB0.out)).mono ?_
    rintro e w1 ⟨rfl, hb1⟩
    have HO1 : Hid (Ows w1 w.heap.size (.slice (some ⟨w.heap.size, 0, none⟩) 0 0) []) := HLIT.out.kept (S := fun _ => False) (Kept.ofBelow hb1) (fun _ _ h => h)
    have HB1 : Hid (Below w.heap.size w w1) := HB0.out.trans (hb1.mono HB0.out.size)
    have hs1 : w.heap.size < w1.heap.size := by have := hb1.size; simp at this; omega
    clear hb1
    go_wp2_with fail
    refine (sFreeTop _ a l c (HN.out.below HB1.out) HT.out).mono ?_
    rintro e w2 ⟨⟨gi, ci, rfl, hg2, hci⟩, hb2⟩
    have HO2 : Hid (Ows w2 w.heap.size (.slice (some ⟨w.heap.size, 0, none⟩) 0 0) []) := HO1.out.kept (S := fun _ => False) (Kept.ofBelow hb2) (fun _ _ h => h)
    have HB2 : Hid (Below w.heap.size w w2) := HB1.out.trans (hb2.mono HB1.out.size)
    have HCI : Hid (∀ x, x < 8 → w2.cell? ⟨gi, x, none⟩ = some (.bool (flag (freeTop l) x))) := hci
    have hgn : gi ≠ w.heap.size := by
      intro e
      have h9 := hci 0 (by omega)
      rw [e, ows_empty HO2.out] at h9
      cases h9
    clear hb2 hT hci
    go_wp2_with fail
    go_loopw [3, 5] (fun v q wr => ∃ k : Nat, k ≤ 8 ∧ q = .int .i64 k ∧ Below w.heap.size w wr ∧ gi < wr.heap.size ∧ (∀ x, x < 8 → wr.cell? ⟨gi, x, none⟩ = some (.bool (flag (freeTop l) x))) ∧ Ows wr w.heap.size v (freeTo l k) ∧ (∀ b, v.ownBlock = some b → b ≠ gi)) (fun _ q _ => 8 - (intOf q).toNat)
    case atStart =>
      refine ⟨0, Nat.zero_le _, rfl, HB2.out, hg2, HCI.out, HO2.out, fun b hb => ?_⟩
      have : b = w.heap.size := by simpa [Value.ownBlock] using hb.symm
      omega
    case round =>
      obtain ⟨k, hk, rfl, hb, hgw, hci, how, hne⟩ := hrel
      have HB : Hid (Below w.heap.size w wr) := hb
      have HI : Hid (∀ x, x < 8 → wr.cell? ⟨gi, x, none⟩ = some (.bool (flag (freeTop l) x))) := hci
      have HO : Hid (Ows wr w.heap.size u3 (freeTo l k)) := how
      have HNE : Hid (∀ b, u3.ownBlock = some b → b ≠ gi) := hne
      have hBs : w.heap.size ≤ wr.heap.size := hb.size
      clear hb how hne
      by_cases hlt : k < 8
      · have hlz : (k : Int) < 8 := by omega
        have cI := hci k hlt
        clear hci
        have hrl := freeTo_length l k
        have HSC : Hid (freeTo l (k + 1) = if flag (freeTop l) k then freeTo l k ++ [(k : Int)] else freeTo l k) := freeTo_succ l k
        cases hf : flag (freeTop l) k
        · rw [hf] at cI
          go_wp2
          go_roundw
          case rel =>
            refine ⟨k + 1, by omega, by go_num, HB.out, hgw, HI.out, ?_, HNE.out⟩
            have h9 := HSC.out
            rw [hf] at h9
            rw [h9]
            exact HO.out
          case measure => simp [intOf]; omega
        · rw [hf] at cI
          go_wp2_with (at_builtin; go_must (refine app_int _ rfl _ _ rfl w.heap.size u3 (freeTo l k) (k : Int) rfl rfl HO.out hBs (by omega) ?_; intro g cp w3 ho3 hk3 hg3))
          have HO3 : Hid (Ows w3 w.heap.size (.slice (some ⟨g, 0, none⟩) ((freeTo l k).length + 1) cp) (freeTo l k ++ [(k : Int)])) := ho3
          have HK3 : Hid (Kept (fun b => u3.ownBlock = some b) wr w3) := hk3
          have HG3 : Hid (u3.ownBlock = some g ∨ wr.heap.size ≤ g) := hg3
          clear ho3 hk3 hg3
          go_wp2
          go_roundw
          case rel =>
            refine ⟨k + 1, by omega, by go_num, HB.out.trans (HK3.out.below (fun b hb => (HO.out.lt b hb).1) hBs), Nat.lt_of_lt_of_le hgw HK3.out.size, (fun x hx => by rw [HK3.out.cell (p := ⟨gi, x, none⟩) hgw (fun h => HNE.out gi h rfl)]; exact HI.out x hx), ?_, ?_⟩
            · have h9 := HSC.out
              rw [hf] at h9
              rw [h9]
              exact HO3.out
            · intro b hb
              have e : b = g := by simpa [Value.ownBlock] using hb.symm
              subst e
              rcases HG3.out with h | h
              · exact HNE.out _ h
              · omega
          case measure => simp [intOf]; omega
      · have e : k = 8 := by omega
        subst e
        go_wp2
        go_ret
        exact ⟨⟨_, rfl, by rw [HR.out]; exact HO.out⟩, HB.out⟩

end Go.Proofs.YtnbenffechplgaaGreat.Sp9

/- A list of nodes appended to another. -/
namespace Go.Proofs.YtnbenffechplgaaGreat.Ap7
open Go.RowKit
open Nd0 Nd3 Ap2 Dw3 Dw4
set_option linter.unusedVariables false

theorem own_cap {w : World} {B : Nat} {a : Option Addr} {n c : Nat} {l : List Nd} (h : Ap2.Own w B (.slice a n c) l) : n = l.length ∧ l.length ≤ c := by
  obtain ⟨h1, h2⟩ := h
  rcases h2 with ⟨e, h0⟩ | ⟨g, cap, cur, e, hb, hg, hn, hm, hs, ht⟩
  · cases e; exact ⟨h0.symm, by omega⟩
  · cases e; exact ⟨rfl, hn⟩

end Go.Proofs.YtnbenffechplgaaGreat.Ap7

/- A list of nodes of any length appended to one's own. -/
namespace Go.Proofs.YtnbenffechplgaaGreat.Ap13
open Go.RowKit
open Nd0 Nd3 Ap2 Dw3 Ap7
set_option linter.unusedVariables false

theorem app_any {ops : Array Oper} {rest : List Oper} {o : Oper} {a : Act} {Q : Exit → Act → World → Prop} (W : World) (hgd : o.guard = none) (s x : Operand)
    (ho : o.op = .call { callee := .builtin .append, args := #[s, x], argTypes := #[26, 26] })
    (B g c : Nat) (l ys L : List Nd) (hL : l ++ ys = L) (gx ox cx n m : Nat) (hs : a.eval s = .slice (some ⟨g, 0, none⟩) n c) (hx : a.eval x = .slice (some ⟨gx, ox, none⟩) m cx) (hn : n = l.length) (hm : m = ys.length)
    (hy : ∀ i (h : i < ys.length), NodeAt W gx (ox + i * 6) ys[i])
    (hown : Ap2.Own W B (.slice (some ⟨g, 0, none⟩) l.length c) l) (hB : B ≤ W.heap.size) (hlen : l.length + ys.length ≤ 1048577)
    (h : ∀ g' cap w', Ap2.Own w' B (.slice (some ⟨g', 0, none⟩) L.length cap) L → Kept (fun k => k = g) W w' → wpList Tryz.prog ops Q rest (a.put o.dst (.slice (some ⟨g', 0, none⟩) L.length cap)) w') :
    wpList Tryz.prog ops Q (o :: rest) a W := by
  subst hn hm hL
  obtain ⟨i, hi, hzz⟩ := Option.map_eq_some_iff.1 infoNode
  simp only [Prod.mk.injEq] at hzz
  obtain ⟨hz, hsz, hb⟩ := hzz
  refine wpList_append_own W hgd s x 26 ho B 35 i _ 6 48 Tryz.underlying26 hi hz hsz hb rfl (by omega) _ l.length (flat l) hs hown
    ⟨gx, ox, none⟩ ys.length cx (flat ys) hx (flat_length ys) (fun j u hu => nodes_cells hy j u hu) ?_ (by unfold maxLen; omega) (by omega) hB ?_
  · intro u hu
    obtain ⟨n, _, hn⟩ := List.mem_flatMap.1 hu
    simp [Nd.cells] at hn
    rcases hn with rfl | rfl | rfl | rfl | rfl | rfl <;> rfl
  · intro v' w' h1 h2 h3
    have h4 : Ap2.Own w' B v' (l ++ ys) := by unfold Ap2.Own; rw [flat_app, List.length_append]; exact h1
    have h5 : ∃ g' cp, v' = .slice (some ⟨g', 0, none⟩) (l ++ ys).length cp := by
      rcases h4.2 with ⟨h0, _⟩ | ⟨g', cap, cur, he, _⟩
      · exact absurd (h3.1 h0).1 (by simp)
      · exact ⟨g', cap, he⟩
    obtain ⟨g', cp, rfl⟩ := h5
    exact h g' cp w' h4 ⟨h2.os, h2.tape, h2.output, h2.size, fun k hk hn => h2.block k hk (fun e => hn (by cases e; rfl))⟩

end Go.Proofs.YtnbenffechplgaaGreat.Ap13

/- The walk of the model's CloseAll. -/
namespace Go.Proofs.YtnbenffechplgaaGreat.Am8
open Go.RowKit
open Nd0 Nd3 Tm0 Tm1 Tm4 Tm8 Aq0 Aq2 Aq12 Ap0
open Ap2 (Own)
open Am5 (sQuantify)
open Am7 (sWidth)
open Ap13 (app_any)
open Sp9 (sFree)
set_option linter.unusedVariables false

theorem free_skip {l : List Nd} (hT : termOk l = true) {v : Nat} (hv : v < 8) (h : flag (freeTop l) v = false) : clTo l (8 - v) = clTo l (8 - (v + 1)) := by
  obtain ⟨h1, h2⟩ := term_len hT
  have h3 : ffTop l v = 80 := by
    have := free_top (down_of hT) h1 h2 hv
    cases e : decide (ffTop l v = 80)
    · have e2 := of_decide_eq_false e
      rw [this.2 e2] at h; cases h
    · exact of_decide_eq_true e
  have e : 8 - v = (8 - (v + 1)) + 1 := by omega
  rw [e]
  exact clTo_skip (by rw [show 7 - (8 - (v + 1)) = v by omega]; exact h3)
theorem free_last {l : List Nd} (hT : termOk l = true) : ∀ v, v ≤ 8 → 1 ≤ (freeTo l v).length → ∃ u, u < v ∧ freeTo l v = freeTo l u ++ [(u : Int)] ∧ flag (freeTop l) u = true ∧ clTo l (8 - v) = clTo l (8 - (u + 1)) := by
  intro v
  induction v with
  | zero => intro _ h; simp [freeTo] at h
  | succ v ih =>
    intro hv h
    rw [freeTo_succ] at h ⊢
    cases hf : flag (freeTop l) v
    · rw [hf] at h
      obtain ⟨u, h1, h2, h3, h4⟩ := ih (by omega) h
      refine ⟨u, by omega, h2, h3, ?_⟩
      rw [← free_skip hT (by omega) hf]; exact h4
    · exact ⟨v, by omega, rfl, hf, rfl⟩
theorem free_none {l : List Nd} (hT : termOk l = true) : ∀ v, v ≤ 8 → (freeTo l v).length = 0 → clTo l 8 = clTo l (8 - v) := by
  intro v
  induction v with
  | zero => intro _ _; rfl
  | succ v ih =>
    intro hv h
    rw [freeTo_succ] at h
    cases hf : flag (freeTop l) v
    · rw [hf] at h
      rw [ih (by omega) h]
      exact free_skip hT (by omega) hf
    · rw [hf, if_pos rfl, List.length_append] at h
      simp at h
theorem free_pre (l : List Nd) : ∀ v, v ≤ 8 → ∃ m, freeTo l 8 = freeTo l v ++ m := by
  intro v hv
  obtain ⟨d, hd⟩ : ∃ d, v + d = 8 := ⟨8 - v, by omega⟩
  induction d generalizing v with
  | zero => have : v = 8 := by omega
            subst this; exact ⟨[], by simp⟩
  | succ d ih =>
    obtain ⟨m, hm⟩ := ih (v + 1) (by omega) (by omega)
    rw [hm, freeTo_succ]
    split
    · exact ⟨_, by rw [List.append_assoc]⟩
    · exact ⟨m, rfl⟩
theorem free_le (l : List Nd) (v : Nat) : (freeTo l v).length ≤ v := by
  unfold freeTo
  rw [List.length_map]
  exact Nat.le_trans (List.length_filter_le _ _) (by simp)
theorem cl_step {l : List Nd} (hT : termOk l = true) {u : Nat} (hu : u < 8) (h : flag (freeTop l) u = true) : clTo l (8 - u) = clTo l (8 - (u + 1)) ++ [quN (l ++ clTo l (8 - (u + 1))) true (u : Int) (widL l u)] := by
  obtain ⟨h1, h2⟩ := term_len hT
  have h3 := (free_top (down_of hT) h1 h2 hu).1 h
  have e : 8 - u = (8 - (u + 1)) + 1 := by omega
  rw [e, clTo_more (by rw [show 7 - (8 - (u + 1)) = u by omega]; exact h3), show 7 - (8 - (u + 1)) = u by omega]
  unfold clN quN
  rw [List.length_append]
  simp

set_option maxRecDepth 100000 in
set_option maxHeartbeats 4000000 in
theorem sCloseAll (w : World) (a : Option Addr) (l : List Nd) (c : Nat) (hN : Nodes w a l) :
    Calls Tryz.prog 12 #[.slice a l.length c] w fun e w' => (∃ a' c', e = .returned (.tuple #[.slice a' (clL l).length c', .bool (clB l)]) ∧ WNodes w' w.heap.size a' (clL l)) ∧ Below w.heap.size w w' := by
  have HN : Hid (Nodes w a l) := hN
  clear hN
  go_enter Tryz.func12, Tryz.ntmps12
  go_wp2_with fail
  refine (Sp4.sTermOk _ _ l c HN.out).mono ?_
  rintro e w1 ⟨rfl, hb1⟩
  have HB1 : Hid (Below w.heap.size w w1) := hb1
  have hs1 := hb1.size
  clear hb1
  cases hT : termOk l
  · have HE : Hid (clB l = false ∧ clL l = []) := cl_term hT
    go_wp2
    go_ret2
    rw [HE.out.1, HE.out.2]
    exact ⟨⟨_, _, rfl, ⟨Nat.zero_le _, .inl rfl⟩⟩, HB1.out.alloc HB1.out.size _⟩
  · have HT : Hid (termOk l = true) := hT
    obtain ⟨hl1, hl2⟩ := term_len hT
    clear hT
    have HN1 : Hid (Nodes w1 a l) := HN.out.below HB1.out
    rcases HN1.out.2 with h0 | ⟨b, o, rfl, hc⟩
    · omega
    obtain ⟨-, p1, -, -, -, -⟩ := hc (l.length - 1) (by omega)
    rw [nth_get (by omega)] at p1
    clear hc
    have g1 : (0 : Int) ≤ (l.length : Int) - 1 := by omega
    have g2 : (l.length : Int) - 1 < (l.length : Int) := by omega
    obtain ⟨z, hz⟩ : ∃ z : Int, z = (nth l (l.length - 1)).w := ⟨_, rfl⟩
    rw [← hz] at p1
    cases hw : (z == 1)
    · have HE : Hid (clB l = false ∧ clL l = []) := cl_wid (by rw [← hz]; exact hw)
      have hne : (z != 1) = true := by simpa using hw
      clear hw hz
      go_wp2
      go_ret2
      rw [HE.out.1, HE.out.2]
      exact ⟨⟨_, _, rfl, ⟨Nat.zero_le _, .inl rfl⟩⟩, HB1.out.alloc HB1.out.size _⟩
    · have HE : Hid (clB l = termOk (clAll l) ∧ clL l = if termOk (clAll l) then clAll l else []) := cl_all HT.out (by rw [← hz]; exact hw)
      have hne : (z != 1) = false := by simpa using hw
      clear hw hz
      go_wp2_with fail
      refine (sFree w1 _ l c HN1.out).mono ?_
      rintro e w2 ⟨⟨vf, rfl, hvf⟩, hb2⟩
      have HFE : Hid (freeL l = freeTo l 8) := by show _ = _; unfold freeL; rw [HT.out]; rfl
      obtain ⟨fa, fc, rfl, hfw⟩ := hvf.form
      rw [HFE.out] at hfw
      rw [HFE.out]
      have HF2 : Hid (Ints w2 fa (freeTo l 8)) := hfw.ints
      have HB2 : Hid (Below w.heap.size w w2) := HB1.out.trans (hb2.mono hs1)
      have HN2 : Hid (Nodes w2 (some ⟨b, o, none⟩) l) := HN1.out.below hb2
      clear hvf hfw hb2 HN1 p1 HB1 hs1
      have HLIT : Hid (Own (w2.alloc (.cells #[] 35)) w2.heap.size (.slice (some ⟨w2.heap.size, 0, none⟩) ([] : List Nd).length 0) []) := Ap2.Own.lit w2 _ (Nat.le_refl _)
      have HXX : Hid (∀ i (h : i < l.length), NodeAt (w2.alloc (.cells #[] 35)) b (o + i * 6) l[i]) := fun i hi => by
        rcases HN2.out.2 with h0 | ⟨b', o', he, hc⟩
        · omega
        · cases he
          exact (hc i hi).below ((Below.refl _ _).alloc (Nat.le_refl _) _) (hc i hi).lt
      go_wp2_with (at_builtin; go_must (refine app_any _ rfl _ _ rfl w2.heap.size w2.heap.size 0 [] l l rfl b o c 0 l.length rfl rfl rfl rfl HXX.out HLIT.out (by simp) (by simp; omega) ?_; intro g3 cp3 w3 ho3 hk3))
      have HO3 : Hid (Own w3 w2.heap.size (.slice (some ⟨g3, 0, none⟩) l.length cp3) l) := ho3
      have hb3 : Below w2.heap.size w2 w3 := ((Below.refl w2.heap.size w2).alloc (Nat.le_refl _) _).trans (hk3.below (fun k hk => by omega) (by simp))
      have HB3 : Hid (Below w.heap.size w w3) := HB2.out.trans (hb3.mono HB2.out.size)
      have HW3 : Hid (WNodes w3 w.heap.size (some ⟨g3, 0, none⟩) l) := by
        obtain ⟨av, cv, hv, hw⟩ := ho3.form
        cases hv
        obtain ⟨h1, h2⟩ := hw
        refine ⟨h1, ?_⟩
        rcases h2 with h0 | ⟨b2, o2, ha, hB, hcc, hf⟩
        · exact .inl h0
        · exact .inr ⟨b2, o2, ha, by have := HB2.out.size; omega, hcc, hf⟩
      have HF3 : Hid (Ints w3 fa (freeTo l 8)) := HF2.out.below hb3
      have HN3 : Hid (Nodes w3 (some ⟨b, o, none⟩) l) := HN2.out.below hb3
      have hf8 := free_le l 8
      have hfz : IntKind.i64.wrap (((freeTo l 8).length : Int) - 1) = ((freeTo l 8).length : Int) - 1 := by rw [IntKind.wrap_i64] <;> omega
      have HC0 : Hid (l ++ clTo l (8 - 8) = l) := by show _ = _; show l ++ [] = l; simp
      clear ho3 hk3 hb3 HB2 HN2 HLIT HXX HF2
      go_wp2_with fail
      go_loopw [5, 6] (fun q i wr => ∃ (v : Nat) (ga : Option Addr) (cp : Nat), v ≤ 8 ∧ i = .int .i64 (((freeTo l v).length : Int) - 1) ∧ q = .slice ga (l ++ clTo l (8 - v)).length cp ∧ WNodes wr w.heap.size ga (l ++ clTo l (8 - v)) ∧ termOk (l ++ clTo l (8 - v)) = true ∧ Ints wr fa (freeTo l 8) ∧ Nodes wr (some ⟨b, o, none⟩) l ∧ Below w.heap.size w wr) (fun _ i _ => (intOf i + 1).toNat)
      case atStart => exact ⟨8, some ⟨g3, 0, none⟩, cp3, Nat.le_refl _, by rw [show wrap64 (((freeTo l 8).length : Int) - 1) = ((freeTo l 8).length : Int) - 1 by unfold wrap64; omega], by rw [HC0.out], by rw [HC0.out]; exact HW3.out, by rw [HC0.out]; exact HT.out, HF3.out, HN3.out, HB3.out⟩
      case round =>
        clear HO3 HW3 HF3 HN3 HB3 HC0 hfz
        obtain ⟨v, ga, cp, hv, rfl, rfl, hw, ht, hf, hn, hb⟩ := hrel
        obtain ⟨wb, rfl⟩ : ∃ wb : World, wb = wr := ⟨_, rfl⟩
        have HW : Hid (WNodes wb w.heap.size ga (l ++ clTo l (8 - v))) := hw
        have HTT : Hid (termOk (l ++ clTo l (8 - v)) = true) := ht
        have HF : Hid (Ints wb fa (freeTo l 8)) := hf
        have HNB : Hid (Nodes wb (some ⟨b, o, none⟩) l) := hn
        have HBB : Hid (Below w.heap.size w wb) := hb
        have hvl := free_le l v
        clear hw ht hf hn hb
        by_cases h0 : 1 ≤ (freeTo l v).length
        · obtain ⟨u, hu1, hu2, hu3, hu4⟩ := free_last HT.out v hv h0
          obtain ⟨m, hm⟩ := free_pre l v hv
          have hlen : (freeTo l v).length = (freeTo l u).length + 1 := by rw [hu2, List.length_append]; rfl
          obtain ⟨i, hi⟩ : ∃ i : Nat, i = (freeTo l u).length := ⟨_, rfl⟩
          have hi8 : i < (freeTo l 8).length := by rw [hm, List.length_append]; omega
          have hget : (freeTo l 8)[i] = (u : Int) := by
            have : (freeTo l 8)[i]? = some (u : Int) := by
              rw [hm, hu2, List.append_assoc, List.getElem?_append_right (by omega), hi, Nat.sub_self]; rfl
            rw [List.getElem?_eq_getElem hi8] at this
            exact Option.some.inj this
          have HP : Hid (∃ fb fo, fa = some ⟨fb, fo, none⟩ ∧ wb.cell? ⟨fb, fo + i, none⟩ = some (.int .i64 (u : Int))) := by
            rcases HF.out.2 with h9 | ⟨fb, fo, he, hc⟩
            · omega
            · have := hc i hi8
              rw [hget] at this
              exact ⟨fb, fo, he, this⟩
          have e1 : ((freeTo l v).length : Int) - 1 = (i : Int) := by omega
          have HCS : Hid (clTo l (8 - u) = clTo l (8 - v) ++ [quN (l ++ clTo l (8 - v)) true (u : Int) (widL l u)]) := by
            have h := cl_step HT.out (by omega) hu3
            rw [← hu4] at h
            exact h
          have HLS : Hid (termOk (clAll l) = true → termOk (l ++ clTo l (8 - u)) = true) := fun h => cl_less hl1 u (8 - u) (by omega) h
          have HI1 : Hid (i = (freeTo l u).length) := hi
          rw [e1]
          obtain ⟨fb, fo, rfl, p0⟩ := HP.out
          have hi0 : (0 : Int) ≤ (i : Int) := by omega
          have hiz : (i : Int) < ((freeTo l 8).length : Int) := by omega
          have HLL : Hid ((l ++ clTo l (8 - v)).length ≤ 88) := by show _ ≤ _; rw [List.length_append]; have := clTo_le l (8 - v); omega
          clear h0 hu2 hu3 hu4 hm hlen hi hget e1 hi8 HP
          obtain ⟨X, hX⟩ : ∃ X, X = l ++ clTo l (8 - v) := ⟨_, rfl⟩
          have HX : Hid (X = l ++ clTo l (8 - v)) := hX
          rw [← hX] at HW HTT HCS HLL ⊢
          clear hX
          generalize hwd : widL l u = wd at HCS
          have HWD : Hid (∀ W : World, Nodes W (some ⟨b, o, none⟩) l → Calls Tryz.prog 24 #[.slice (some ⟨b, o, none⟩) l.length c, .int .i64 (u : Int)] W fun e w' => e = .returned (.int .i64 wd) ∧ Below W.heap.size W w') := fun W h => by
            have := sWidth W (some ⟨b, o, none⟩) l c u h HT.out
            rw [hwd] at this
            exact this
          clear hwd
          have HQU : Hid (∀ W : World, Nodes W ga X → Calls Tryz.prog 23 #[.slice ga X.length cp, .bool true, .int .i64 (u : Int), .int .i64 wd] W fun e w' => (∃ a' c', e = .returned (.tuple #[.slice a' (behL X (quN X true (u : Int) wd)).length c', .bool (behB X (quN X true (u : Int) wd))]) ∧ WNodes w' W.heap.size a' (behL X (quN X true (u : Int) wd))) ∧ Below W.heap.size W w') := fun W h => sQuantify W ga X cp true (u : Int) wd h (by have := HLL.out; omega)
          have HYY : Hid (l ++ clTo l (8 - u) = X ++ [quN X true (u : Int) wd]) := by show _ = _; rw [HCS.out, HX.out, List.append_assoc]
          have HBE : Hid (behB X (quN X true (u : Int) wd) = termOk (l ++ clTo l (8 - u)) ∧ (behB X (quN X true (u : Int) wd) = true → behL X (quN X true (u : Int) wd) = l ++ clTo l (8 - u))) := by
            have h1 : behB X (quN X true (u : Int) wd) = termOk (l ++ clTo l (8 - u)) := by unfold behB; rw [HTT.out, HYY.out]; rfl
            refine ⟨h1, fun h => ?_⟩
            unfold behL
            rw [h, if_pos rfl, HYY.out]
          generalize behL X (quN X true (u : Int) wd) = Y at HQU HBE
          generalize behB X (quN X true (u : Int) wd) = yb at HQU HBE
          go_wp2_with fail
          have DN : Hid (Nodes wb.drew (some ⟨b, o, none⟩) l) := HNB.out.below ((Below.refl _ _).drew)
          have DX : Hid (Nodes wb.drew ga X) := HW.out.nodes.below ((Below.refl _ _).drew)
          have DF : Hid (Ints wb.drew (some ⟨fb, fo, none⟩) (freeTo l 8)) := HF.out.below ((Below.refl _ _).drew)
          have DB : Hid (Below w.heap.size w wb.drew) := HBB.out.drew
          have DP : wb.drew.cell? ⟨fb, fo + i, none⟩ = some (.int .i64 (u : Int)) := p0
          go_region_held3 (fun w' => w'.cell? ⟨fb, fo + i, none⟩ = some (.int .i64 (u : Int))) ((first | exact EP | exact DP)) ((first | (go_at_call 24; refine (HWD.out _ DN.out).mono ?_; rintro e w5 ⟨rfl, hb5⟩; have EP : w5.cell? ⟨fb, fo + i, none⟩ = some (.int .i64 (u : Int)) := (hb5.cell (lt_of_cell DP)).trans DP; have EX : Hid (Nodes w5 ga X) := DX.out.below hb5; have EN : Hid (Nodes w5 (some ⟨b, o, none⟩) l) := DN.out.below hb5; have EF : Hid (Ints w5 (some ⟨fb, fo, none⟩) (freeTo l 8)) := DF.out.below hb5; have EB : Hid (Below w.heap.size w w5) := DB.out.trans (hb5.mono DB.out.size); clear hb5) | (go_at_call 23; refine (HQU.out _ EX.out).mono ?_; rintro e w6 ⟨⟨a6, c6, rfl, hw6⟩, hb6⟩; have EP : w6.cell? ⟨fb, fo + i, none⟩ = some (.int .i64 (u : Int)) := (hb6.cell (lt_of_cell EP)).trans EP; have GN : Hid (Nodes w6 (some ⟨b, o, none⟩) l) := EN.out.below hb6; have GF : Hid (Ints w6 (some ⟨fb, fo, none⟩) (freeTo l 8)) := EF.out.below hb6; have GB : Hid (Below w.heap.size w w6) := EB.out.trans (hb6.mono EB.out.size); have GW : Hid (WNodes w6 w5.heap.size a6 Y) := hw6; have GS : Hid (w.heap.size ≤ w5.heap.size) := EB.out.size; clear hw6 hb6)))
          all_goals
            have HW6 : Hid (WNodes w6 w.heap.size a6 Y) := by
              obtain ⟨h1, h2⟩ := GW.out
              refine ⟨h1, ?_⟩
              rcases h2 with h0 | ⟨b2, o2, ha, hB, hcc, hf⟩
              · exact .inl h0
              · exact .inr ⟨b2, o2, ha, by have := GS.out; omega, hcc, hf⟩
            have HN6 : Hid (Nodes w6 (some ⟨b, o, none⟩) l) := GN.out
            have HF6 : Hid (Ints w6 (some ⟨fb, fo, none⟩) (freeTo l 8)) := GF.out
            have HB6 : Hid (Below w.heap.size w w6) := GB.out
            clear DP EP DN DX DF DB EX EN EF EB GN GF GB GW GS HWD HQU HW HF HNB HBB p0
            cases yb
            · have HFIN : Hid (clB l = false ∧ clL l = []) := by
                have h1 : termOk (clAll l) = false := by
                  cases h : termOk (clAll l)
                  · rfl
                  · have h2 := HLS.out h
                    rw [← HBE.out.1] at h2
                    cases h2
                exact ⟨by rw [HE.out.1, h1], by rw [HE.out.2, h1]; rfl⟩
              go_wp2
              go_ret2
              rw [HFIN.out.1, HFIN.out.2]
              exact ⟨⟨_, _, rfl, ⟨Nat.zero_le _, .inl rfl⟩⟩, HB6.out.alloc HB6.out.size _⟩
            · have HYE : Hid (Y = l ++ clTo l (8 - u)) := HBE.out.2 rfl
              have HTE : Hid (termOk (l ++ clTo l (8 - u)) = true) := HBE.out.1.symm
              have hi7 : (i : Int) ≤ 8 := by have := HI1.out; have := free_le l u; omega
              go_wp2_with fail
              go_roundw
              case rel => exact ⟨u, a6, c6, by omega, by have := HI1.out; congr 1; omega, by rw [HYE.out], by rw [← HYE.out]; exact HW6.out, HTE.out, HF6.out, HN6.out, HB6.out⟩
              case measure => simp [intOf]
        · have HNN : Hid (clTo l 8 = clTo l (8 - v)) := free_none HT.out v hv (by omega)
          have hz : ((freeTo l v).length : Int) - 1 = -1 := by omega
          rw [hz]
          have HFIN : Hid (clB l = true ∧ clL l = l ++ clTo l (8 - v)) := by
            have h1 : termOk (clAll l) = true := by unfold clAll; rw [HNN.out]; exact HTT.out
            refine ⟨by rw [HE.out.1, h1], ?_⟩
            rw [HE.out.2, h1, if_pos rfl]
            unfold clAll
            rw [HNN.out]
          clear h0 hz hvl
          go_wp2
          go_ret2
          rw [HFIN.out.1, HFIN.out.2]
          exact ⟨⟨_, _, rfl, HW.out⟩, HBB.out⟩

end Go.Proofs.YtnbenffechplgaaGreat.Am8

/- Texts of terms as plain data: numbers in decimal digits, words, the text of a node. -/
namespace Go.Proofs.YtnbenffechplgaaGreat.Tx0
open Nd0 Pl1 Tm0 Tm1

end Go.Proofs.YtnbenffechplgaaGreat.Tx0

/- The reader of a text is local: what it took it takes again, whatever stands behind; where it fails. -/
namespace Go.Proofs.YtnbenffechplgaaGreat.Tx1
open Nd0 Pl1 Tm0 Tm1 Tx0

end Go.Proofs.YtnbenffechplgaaGreat.Tx1

/- The text of a node is read as that node, when its parts are. -/
namespace Go.Proofs.YtnbenffechplgaaGreat.Tx2
open Nd0 Pl1 Tm0 Tm1 Tm3 Tm8 Tx0 Tx1

end Go.Proofs.YtnbenffechplgaaGreat.Tx2

/- What is written of a term is read: as its canonical form, of which the same is written. -/
namespace Go.Proofs.YtnbenffechplgaaGreat.Tx3
open Nd0 Pl1 Tm0 Tm1 Tm3 Tm8 Tx0 Tx1 Tx2

end Go.Proofs.YtnbenffechplgaaGreat.Tx3
