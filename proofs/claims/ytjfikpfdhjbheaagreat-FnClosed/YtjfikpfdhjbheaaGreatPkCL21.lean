/- Small texts of mine, one behind the other. -/
import Derived.Deep.RegionHeld3
import Derived.Deep.CutBlock
import Derived.Test.YtjfikpfdhjbheaaGreatAm5
import Derived.Test.YtjfikpfdhjbheaaGreatPkCL20
import Derived.Test.YtjfikpfdhjbheaaGreatPkCL17
import Derived.Test.YtjfikpfdhjbheaaGreatPkCL11
import Derived.Test.YtjfikpfdhjbheaaGreatPkCL16
import Derived.Test.YtjfikpfdhjbheaaGreatPkCL5
import Derived.Test.YtjfikpfdhjbheaaGreatPkCL0
/- The walk of the model's CloseAll. -/
namespace Go.Proofs.YtjfikpfdhjbheaaGreat.Am8
open Go.RowKit
open Nd0 Nd3 Tm0 Tm1 Tm4 Tm8 Aq0 Aq2 Aq12 Ap0
open Ap2 (Own)
open Am5 (sQuantify)
open Am7 (sWidth)
open Ap13 (app_any)
open Sp9 (sFree)
set_option linter.unusedVariables false

theorem free_skip {l : List Nd} (hT : termOk l = true) {v : Nat} (hv : v < 8) (h : flag (freeTop l) v = false) : clTo l (8 - v) = clTo l (8 - (v + 1)) := by
  obtain ⟨h1, h2⟩ := term_len hT
  have h3 : ffTop l v = 80 := by
    have := free_top (down_of hT) h1 h2 hv
    cases e : decide (ffTop l v = 80)
    · have e2 := of_decide_eq_false e
      rw [this.2 e2] at h; cases h
    · exact of_decide_eq_true e
  have e : 8 - v = (8 - (v + 1)) + 1 := by omega
  rw [e]
  exact clTo_skip (by rw [show 7 - (8 - (v + 1)) = v by omega]; exact h3)
theorem free_last {l : List Nd} (hT : termOk l = true) : ∀ v, v ≤ 8 → 1 ≤ (freeTo l v).length → ∃ u, u < v ∧ freeTo l v = freeTo l u ++ [(u : Int)] ∧ flag (freeTop l) u = true ∧ clTo l (8 - v) = clTo l (8 - (u + 1)) := by
  intro v
  induction v with
  | zero => intro _ h; simp [freeTo] at h
  | succ v ih =>
    intro hv h
    rw [freeTo_succ] at h ⊢
    cases hf : flag (freeTop l) v
    · rw [hf] at h
      obtain ⟨u, h1, h2, h3, h4⟩ := ih (by omega) h
      refine ⟨u, by omega, h2, h3, ?_⟩
      rw [← free_skip hT (by omega) hf]; exact h4
    · exact ⟨v, by omega, rfl, hf, rfl⟩
theorem free_none {l : List Nd} (hT : termOk l = true) : ∀ v, v ≤ 8 → (freeTo l v).length = 0 → clTo l 8 = clTo l (8 - v) := by
  intro v
  induction v with
  | zero => intro _ _; rfl
  | succ v ih =>
    intro hv h
    rw [freeTo_succ] at h
    cases hf : flag (freeTop l) v
    · rw [hf] at h
      rw [ih (by omega) h]
      exact free_skip hT (by omega) hf
    · rw [hf, if_pos rfl, List.length_append] at h
      simp at h
theorem free_pre (l : List Nd) : ∀ v, v ≤ 8 → ∃ m, freeTo l 8 = freeTo l v ++ m := by
  intro v hv
  obtain ⟨d, hd⟩ : ∃ d, v + d = 8 := ⟨8 - v, by omega⟩
  induction d generalizing v with
  | zero => have : v = 8 := by omega
            subst this; exact ⟨[], by simp⟩
  | succ d ih =>
    obtain ⟨m, hm⟩ := ih (v + 1) (by omega) (by omega)
    rw [hm, freeTo_succ]
    split
    · exact ⟨_, by rw [List.append_assoc]⟩
    · exact ⟨m, rfl⟩
theorem free_le (l : List Nd) (v : Nat) : (freeTo l v).length ≤ v := by
  unfold freeTo
  rw [List.length_map]
  exact Nat.le_trans (List.length_filter_le _ _) (by simp)
theorem cl_step {l : List Nd} (hT : termOk l = true) {u : Nat} (hu : u < 8) (h : flag (freeTop l) u = true) : clTo l (8 - u) = clTo l (8 - (u + 1)) ++ [quN (l ++ clTo l (8 - (u + 1))) true (u : Int) (widL l u)] := by
  obtain ⟨h1, h2⟩ := term_len hT
  have h3 := (free_top (down_of hT) h1 h2 hu).1 h
  have e : 8 - u = (8 - (u + 1)) + 1 := by omega
  rw [e, clTo_more (by rw [show 7 - (8 - (u + 1)) = u by omega]; exact h3), show 7 - (8 - (u + 1)) = u by omega]
  unfold clN quN
  rw [List.length_append]
  simp

set_option maxRecDepth 100000 in
set_option maxHeartbeats 4000000 in
theorem sCloseAll (w : World) (a : Option Addr) (l : List Nd) (c : Nat) (hN : Nodes w a l) :
    Calls Tryz.prog 19 #[.slice a l.length c] w fun e w' => (∃ a' c', e = .returned (.tuple #[.slice a' (clL l).length c', .bool (clB l)]) ∧ WNodes w' w.heap.size a' (clL l)) ∧ Below w.heap.size w w' := by
  have HN : Hid (Nodes w a l) := hN
  clear hN
  go_enter Tryz.func19, Tryz.ntmps19
  go_wp2_with fail
  refine (Sp4.sTermOk _ _ l c HN.out).mono ?_
  rintro e w1 ⟨rfl, hb1⟩
  have HB1 : Hid (Below w.heap.size w w1) := hb1
  have hs1 := hb1.size
  clear hb1
  cases hT : termOk l
  · have HE : Hid (clB l = false ∧ clL l = []) := cl_term hT
    go_wp2
    go_ret2
    rw [HE.out.1, HE.out.2]
    exact ⟨⟨_, _, rfl, ⟨Nat.zero_le _, .inl rfl⟩⟩, HB1.out.alloc HB1.out.size _⟩
  · have HT : Hid (termOk l = true) := hT
    obtain ⟨hl1, hl2⟩ := term_len hT
    clear hT
    have HN1 : Hid (Nodes w1 a l) := HN.out.below HB1.out
    rcases HN1.out.2 with h0 | ⟨b, o, rfl, hc⟩
    · omega
    obtain ⟨-, p1, -, -, -, -⟩ := hc (l.length - 1) (by omega)
    rw [nth_get (by omega)] at p1
    clear hc
    have g1 : (0 : Int) ≤ (l.length : Int) - 1 := by omega
    have g2 : (l.length : Int) - 1 < (l.length : Int) := by omega
    obtain ⟨z, hz⟩ : ∃ z : Int, z = (nth l (l.length - 1)).w := ⟨_, rfl⟩
    rw [← hz] at p1
    cases hw : (z == 1)
    · have HE : Hid (clB l = false ∧ clL l = []) := cl_wid (by rw [← hz]; exact hw)
      have hne : (z != 1) = true := by simpa using hw
      clear hw hz
      go_wp2
      go_ret2
      rw [HE.out.1, HE.out.2]
      exact ⟨⟨_, _, rfl, ⟨Nat.zero_le _, .inl rfl⟩⟩, HB1.out.alloc HB1.out.size _⟩
    · have HE : Hid (clB l = termOk (clAll l) ∧ clL l = if termOk (clAll l) then clAll l else []) := cl_all HT.out (by rw [← hz]; exact hw)
      have hne : (z != 1) = false := by simpa using hw
      clear hw hz
      go_wp2_with fail
      refine (sFree w1 _ l c HN1.out).mono ?_
      rintro e w2 ⟨⟨vf, rfl, hvf⟩, hb2⟩
      have HFE : Hid (freeL l = freeTo l 8) := by show _ = _; unfold freeL; rw [HT.out]; rfl
      obtain ⟨fa, fc, rfl, hfw⟩ := hvf.form
      rw [HFE.out] at hfw
      rw [HFE.out]
      have HF2 : Hid (Ints w2 fa (freeTo l 8)) := hfw.ints
      have HB2 : Hid (Below w.heap.size w w2) := HB1.out.trans (hb2.mono hs1)
      have HN2 : Hid (Nodes w2 (some ⟨b, o, none⟩) l) := HN1.out.below hb2
      clear hvf hfw hb2 HN1 p1 HB1 hs1
      have HLIT : Hid (Own (w2.alloc (.cells #[] 42)) w2.heap.size (.slice (some ⟨w2.heap.size, 0, none⟩) ([] : List Nd).length 0) []) := Ap2.Own.lit w2 _ (Nat.le_refl _)
      have HXX : Hid (∀ i (h : i < l.length), NodeAt (w2.alloc (.cells #[] 42)) b (o + i * 6) l[i]) := fun i hi => by
        rcases HN2.out.2 with h0 | ⟨b', o', he, hc⟩
        · omega
        · cases he
          exact (hc i hi).below ((Below.refl _ _).alloc (Nat.le_refl _) _) (hc i hi).lt
      go_wp2_with (at_builtin; go_must (refine app_any _ rfl _ _ rfl w2.heap.size w2.heap.size 0 [] l l rfl b o c 0 l.length rfl rfl rfl rfl HXX.out HLIT.out (by simp) (by simp; omega) ?_; intro g3 cp3 w3 ho3 hk3))
      have HO3 : Hid (Own w3 w2.heap.size (.slice (some ⟨g3, 0, none⟩) l.length cp3) l) := ho3
      have hb3 : Below w2.heap.size w2 w3 := ((Below.refl w2.heap.size w2).alloc (Nat.le_refl _) _).trans (hk3.below (fun k hk => by omega) (by simp))
      have HB3 : Hid (Below w.heap.size w w3) := HB2.out.trans (hb3.mono HB2.out.size)
      have HW3 : Hid (WNodes w3 w.heap.size (some ⟨g3, 0, none⟩) l) := by
        obtain ⟨av, cv, hv, hw⟩ := ho3.form
        cases hv
        obtain ⟨h1, h2⟩ := hw
        refine ⟨h1, ?_⟩
        rcases h2 with h0 | ⟨b2, o2, ha, hB, hcc, hf⟩
        · exact .inl h0
        · exact .inr ⟨b2, o2, ha, by have := HB2.out.size; omega, hcc, hf⟩
      have HF3 : Hid (Ints w3 fa (freeTo l 8)) := HF2.out.below hb3
      have HN3 : Hid (Nodes w3 (some ⟨b, o, none⟩) l) := HN2.out.below hb3
      have hf8 := free_le l 8
      have hfz : IntKind.i64.wrap (((freeTo l 8).length : Int) - 1) = ((freeTo l 8).length : Int) - 1 := by rw [IntKind.wrap_i64] <;> omega
      have HC0 : Hid (l ++ clTo l (8 - 8) = l) := by show _ = _; show l ++ [] = l; simp
      clear ho3 hk3 hb3 HB2 HN2 HLIT HXX HF2
      go_wp2_with fail
      go_loopw [5, 6] (fun q i wr => ∃ (v : Nat) (ga : Option Addr) (cp : Nat), v ≤ 8 ∧ i = .int .i64 (((freeTo l v).length : Int) - 1) ∧ q = .slice ga (l ++ clTo l (8 - v)).length cp ∧ WNodes wr w.heap.size ga (l ++ clTo l (8 - v)) ∧ termOk (l ++ clTo l (8 - v)) = true ∧ Ints wr fa (freeTo l 8) ∧ Nodes wr (some ⟨b, o, none⟩) l ∧ Below w.heap.size w wr) (fun _ i _ => (intOf i + 1).toNat)
      case atStart => exact ⟨8, some ⟨g3, 0, none⟩, cp3, Nat.le_refl _, by rw [show wrap64 (((freeTo l 8).length : Int) - 1) = ((freeTo l 8).length : Int) - 1 by unfold wrap64; omega], by rw [HC0.out], by rw [HC0.out]; exact HW3.out, by rw [HC0.out]; exact HT.out, HF3.out, HN3.out, HB3.out⟩
      case round =>
        clear HO3 HW3 HF3 HN3 HB3 HC0 hfz
        obtain ⟨v, ga, cp, hv, rfl, rfl, hw, ht, hf, hn, hb⟩ := hrel
        obtain ⟨wb, rfl⟩ : ∃ wb : World, wb = wr := ⟨_, rfl⟩
        have HW : Hid (WNodes wb w.heap.size ga (l ++ clTo l (8 - v))) := hw
        have HTT : Hid (termOk (l ++ clTo l (8 - v)) = true) := ht
        have HF : Hid (Ints wb fa (freeTo l 8)) := hf
        have HNB : Hid (Nodes wb (some ⟨b, o, none⟩) l) := hn
        have HBB : Hid (Below w.heap.size w wb) := hb
        have hvl := free_le l v
        clear hw ht hf hn hb
        by_cases h0 : 1 ≤ (freeTo l v).length
        · obtain ⟨u, hu1, hu2, hu3, hu4⟩ := free_last HT.out v hv h0
          obtain ⟨m, hm⟩ := free_pre l v hv
          have hlen : (freeTo l v).length = (freeTo l u).length + 1 := by rw [hu2, List.length_append]; rfl
          obtain ⟨i, hi⟩ : ∃ i : Nat, i = (freeTo l u).length := ⟨_, rfl⟩
          have hi8 : i < (freeTo l 8).length := by rw [hm, List.length_append]; omega
          have hget : (freeTo l 8)[i] = (u : Int) := by
            have : (freeTo l 8)[i]? = some (u : Int) := by
              rw [hm, hu2, List.append_assoc, List.getElem?_append_right (by omega), hi, Nat.sub_self]; rfl
            rw [List.getElem?_eq_getElem hi8] at this
            exact Option.some.inj this
          have HP : Hid (∃ fb fo, fa = some ⟨fb, fo, none⟩ ∧ wb.cell? ⟨fb, fo + i, none⟩ = some (.int .i64 (u : Int))) := by
            rcases HF.out.2 with h9 | ⟨fb, fo, he, hc⟩
            · omega
            · have := hc i hi8
              rw [hget] at this
              exact ⟨fb, fo, he, this⟩
          have e1 : ((freeTo l v).length : Int) - 1 = (i : Int) := by omega
          have HCS : Hid (clTo l (8 - u) = clTo l (8 - v) ++ [quN (l ++ clTo l (8 - v)) true (u : Int) (widL l u)]) := by
            have h := cl_step HT.out (by omega) hu3
            rw [← hu4] at h
            exact h
          have HLS : Hid (termOk (clAll l) = true → termOk (l ++ clTo l (8 - u)) = true) := fun h => cl_less hl1 u (8 - u) (by omega) h
          have HI1 : Hid (i = (freeTo l u).length) := hi
          rw [e1]
          obtain ⟨fb, fo, rfl, p0⟩ := HP.out
          have hi0 : (0 : Int) ≤ (i : Int) := by omega
          have hiz : (i : Int) < ((freeTo l 8).length : Int) := by omega
          have HLL : Hid ((l ++ clTo l (8 - v)).length ≤ 88) := by show _ ≤ _; rw [List.length_append]; have := clTo_le l (8 - v); omega
          clear h0 hu2 hu3 hu4 hm hlen hi hget e1 hi8 HP
          obtain ⟨X, hX⟩ : ∃ X, X = l ++ clTo l (8 - v) := ⟨_, rfl⟩
          have HX : Hid (X = l ++ clTo l (8 - v)) := hX
          rw [← hX] at HW HTT HCS HLL ⊢
          clear hX
          generalize hwd : widL l u = wd at HCS
          have HWD : Hid (∀ W : World, Nodes W (some ⟨b, o, none⟩) l → Calls Tryz.prog 43 #[.slice (some ⟨b, o, none⟩) l.length c, .int .i64 (u : Int)] W fun e w' => e = .returned (.int .i64 wd) ∧ Below W.heap.size W w') := fun W h => by
            have := sWidth W (some ⟨b, o, none⟩) l c u h HT.out
            rw [hwd] at this
            exact this
          clear hwd
          have HQU : Hid (∀ W : World, Nodes W ga X → Calls Tryz.prog 42 #[.slice ga X.length cp, .bool true, .int .i64 (u : Int), .int .i64 wd] W fun e w' => (∃ a' c', e = .returned (.tuple #[.slice a' (behL X (quN X true (u : Int) wd)).length c', .bool (behB X (quN X true (u : Int) wd))]) ∧ WNodes w' W.heap.size a' (behL X (quN X true (u : Int) wd))) ∧ Below W.heap.size W w') := fun W h => sQuantify W ga X cp true (u : Int) wd h (by have := HLL.out; omega)
          have HYY : Hid (l ++ clTo l (8 - u) = X ++ [quN X true (u : Int) wd]) := by show _ = _; rw [HCS.out, HX.out, List.append_assoc]
          have HBE : Hid (behB X (quN X true (u : Int) wd) = termOk (l ++ clTo l (8 - u)) ∧ (behB X (quN X true (u : Int) wd) = true → behL X (quN X true (u : Int) wd) = l ++ clTo l (8 - u))) := by
            have h1 : behB X (quN X true (u : Int) wd) = termOk (l ++ clTo l (8 - u)) := by unfold behB; rw [HTT.out, HYY.out]; rfl
            refine ⟨h1, fun h => ?_⟩
            unfold behL
            rw [h, if_pos rfl, HYY.out]
          generalize behL X (quN X true (u : Int) wd) = Y at HQU HBE
          generalize behB X (quN X true (u : Int) wd) = yb at HQU HBE
          go_wp2_with fail
          have DN : Hid (Nodes wb.drew (some ⟨b, o, none⟩) l) := HNB.out.below ((Below.refl _ _).drew)
          have DX : Hid (Nodes wb.drew ga X) := HW.out.nodes.below ((Below.refl _ _).drew)
          have DF : Hid (Ints wb.drew (some ⟨fb, fo, none⟩) (freeTo l 8)) := HF.out.below ((Below.refl _ _).drew)
          have DB : Hid (Below w.heap.size w wb.drew) := HBB.out.drew
          have DP : wb.drew.cell? ⟨fb, fo + i, none⟩ = some (.int .i64 (u : Int)) := p0
          go_region_held3 (fun w' => w'.cell? ⟨fb, fo + i, none⟩ = some (.int .i64 (u : Int))) ((first | exact EP | exact DP)) ((first | (go_at_call 43; refine (HWD.out _ DN.out).mono ?_; rintro e w5 ⟨rfl, hb5⟩; have EP : w5.cell? ⟨fb, fo + i, none⟩ = some (.int .i64 (u : Int)) := (hb5.cell (lt_of_cell DP)).trans DP; have EX : Hid (Nodes w5 ga X) := DX.out.below hb5; have EN : Hid (Nodes w5 (some ⟨b, o, none⟩) l) := DN.out.below hb5; have EF : Hid (Ints w5 (some ⟨fb, fo, none⟩) (freeTo l 8)) := DF.out.below hb5; have EB : Hid (Below w.heap.size w w5) := DB.out.trans (hb5.mono DB.out.size); clear hb5) | (go_at_call 42; refine (HQU.out _ EX.out).mono ?_; rintro e w6 ⟨⟨a6, c6, rfl, hw6⟩, hb6⟩; have EP : w6.cell? ⟨fb, fo + i, none⟩ = some (.int .i64 (u : Int)) := (hb6.cell (lt_of_cell EP)).trans EP; have GN : Hid (Nodes w6 (some ⟨b, o, none⟩) l) := EN.out.below hb6; have GF : Hid (Ints w6 (some ⟨fb, fo, none⟩) (freeTo l 8)) := EF.out.below hb6; have GB : Hid (Below w.heap.size w w6) := EB.out.trans (hb6.mono EB.out.size); have GW : Hid (WNodes w6 w5.heap.size a6 Y) := hw6; have GS : Hid (w.heap.size ≤ w5.heap.size) := EB.out.size; clear hw6 hb6)))
          all_goals
            have HW6 : Hid (WNodes w6 w.heap.size a6 Y) := by
              obtain ⟨h1, h2⟩ := GW.out
              refine ⟨h1, ?_⟩
              rcases h2 with h0 | ⟨b2, o2, ha, hB, hcc, hf⟩
              · exact .inl h0
              · exact .inr ⟨b2, o2, ha, by have := GS.out; omega, hcc, hf⟩
            have HN6 : Hid (Nodes w6 (some ⟨b, o, none⟩) l) := GN.out
            have HF6 : Hid (Ints w6 (some ⟨fb, fo, none⟩) (freeTo l 8)) := GF.out
            have HB6 : Hid (Below w.heap.size w w6) := GB.out
            clear DP EP DN DX DF DB EX EN EF EB GN GF GB GW GS HWD HQU HW HF HNB HBB p0
            cases yb
            · have HFIN : Hid (clB l = false ∧ clL l = []) := by
                have h1 : termOk (clAll l) = false := by
                  cases h : termOk (clAll l)
                  · rfl
                  · have h2 := HLS.out h
                    rw [← HBE.out.1] at h2
                    cases h2
                exact ⟨by rw [HE.out.1, h1], by rw [HE.out.2, h1]; rfl⟩
              go_wp2
              go_ret2
              rw [HFIN.out.1, HFIN.out.2]
              exact ⟨⟨_, _, rfl, ⟨Nat.zero_le _, .inl rfl⟩⟩, HB6.out.alloc HB6.out.size _⟩
            · have HYE : Hid (Y = l ++ clTo l (8 - u)) := HBE.out.2 rfl
              have HTE : Hid (termOk (l ++ clTo l (8 - u)) = true) := HBE.out.1.symm
              have hi7 : (i : Int) ≤ 8 := by have := HI1.out; have := free_le l u; omega
              go_wp2_with fail
              go_roundw
              case rel => exact ⟨u, a6, c6, by omega, by have := HI1.out; congr 1; omega, by rw [HYE.out], by rw [← HYE.out]; exact HW6.out, HTE.out, HF6.out, HN6.out, HB6.out⟩
              case measure => simp [intOf]
        · have HNN : Hid (clTo l 8 = clTo l (8 - v)) := free_none HT.out v hv (by omega)
          have hz : ((freeTo l v).length : Int) - 1 = -1 := by omega
          rw [hz]
          have HFIN : Hid (clB l = true ∧ clL l = l ++ clTo l (8 - v)) := by
            have h1 : termOk (clAll l) = true := by unfold clAll; rw [HNN.out]; exact HTT.out
            refine ⟨by rw [HE.out.1, h1], ?_⟩
            rw [HE.out.2, h1, if_pos rfl]
            unfold clAll
            rw [HNN.out]
          clear h0 hz hvl
          go_wp2
          go_ret2
          rw [HFIN.out.1, HFIN.out.2]
          exact ⟨⟨_, _, rfl, HW.out⟩, HBB.out⟩

end Go.Proofs.YtjfikpfdhjbheaaGreat.Am8

/- Terms from terms, as plain data: constants put together, terms joined, numbers that are taken. -/
namespace Go.Proofs.YtjfikpfdhjbheaaGreat.Aq1
open Nd0 Pl1 Tm0 Tm1 Tm3 Tm4 Tm5 Tm7 Tm8 Tm12 Tm13 Vl1 Aq0
set_option linter.unusedVariables false

end Go.Proofs.YtjfikpfdhjbheaaGreat.Aq1

/- The walk of the model's l15Join. Written by tools/mkam9.py. -/
namespace Go.Proofs.YtjfikpfdhjbheaaGreat.Am9
open Go.RowKit
open Nd0 Nd3 Tm0 Tm1 Tm8 Aq0 Aq1 Sp2
open Ap2 (Own app_node)
open Ap13 (app_any)
set_option linter.unusedVariables false

end Go.Proofs.YtjfikpfdhjbheaaGreat.Am9

/- What a node of a term is worth, out of what its parts are worth: as plain data. -/
namespace Go.Proofs.YtjfikpfdhjbheaaGreat.Vm0
open Nd0 Pl1 Pl2 Tm0 Tm1 Tm3 Tm5 Tm6 Tm8 Tm11 Tm13 Tm14 Tr0 Vl1 Vl2
set_option linter.unusedVariables false

theorem applyL_k {op : Int} (h : (3 ≤ op ∧ op ≤ 16) ∨ op = 18) (W k k' w a b c : Int) : applyL op W k w a b c = applyL op W k' w a b c := by
  have h0 : ¬ op = 0 := by omega
  have h17 : ¬ op = 17 := by omega
  unfold applyL opL
  simp only [h0, h17, if_false]
def pvs (l : List Nd) (e : List Int) (n : Nd) : List Int := (parts n).map fun p => vT (tr l p.toNat) e
def pw (l : List Nd) (n : Nd) : Int := match parts n with
  | [] => 1
  | p :: _ => (nth l p.toNat).w
section
variable {l : List Nd} (hD : Down l) (hN : ∀ k, k < l.length → nodeOk l k = true) {k : Nat} (hk : k < l.length) (e : List Int)
include hD hN hk
theorem vT_other (h1 : ¬ (nth l k).op = 1) (hq : quant (nth l k).op = false) :
    vT (tr l k) e = applyL (nth l k).op (nth l k).w (nth l k).k (pw l (nth l k)) ((pvs l e (nth l k)).getD 0 0) ((pvs l e (nth l k)).getD 1 0) ((pvs l e (nth l k)).getD 2 0) := by
  rw [tr_at hD hk]
  have hd := hD k hk
  have hp : ∀ p ∈ parts (nth l k), (tr l p.toNat).wid = (nth l p.toNat).w := fun p h => (rt_all hD hN p.toNat (by have := hd p h; omega)).2
  generalize nth l k = n at h1 hq hp hd
  have hq2 : ¬ n.op = 19 ∧ ¬ n.op = 20 := by simpa [quant] using hq
  by_cases g1 : n.op = 2 ∨ n.op = 17 ∨ n.op = 19 ∨ n.op = 20
  · rw [mk_one g1]
    unfold pvs pw
    rw [parts_one g1] at hp ⊢
    simp only [vT, List.map_cons, List.map_nil]
    rw [if_neg hq2.1, if_neg hq2.2, hp n.a (by simp)]
    rfl
  · by_cases g2 : 3 ≤ n.op ∧ n.op ≤ 16
    · rw [mk_two g2]
      unfold pvs pw
      rw [parts_two g2] at hp ⊢
      simp only [vT, List.map_cons, List.map_nil]
      rw [hp n.a (by simp), applyL_k (.inl g2) _ 0 n.k]
      rfl
    · by_cases g3 : n.op = 18
      · rw [mk_three g3]
        unfold pvs pw
        rw [parts_three g3] at hp ⊢
        simp only [vT, List.map_cons, List.map_nil]
        rw [hp n.a (by simp), applyL_k (.inr g3) _ 0 n.k]
        rfl
      · rw [mk_leaf g1 g2 g3]
        unfold pvs pw
        rw [parts_none g1 g2 g3]
        simp only [vT]
        rw [if_neg h1]
        rfl
end
theorem vT_var {l : List Nd} (hD : Down l) {k : Nat} (hk : k < l.length) (e : List Int) (h1 : (nth l k).op = 1) : vT (tr l k) e = wd e (nth l k).k := by
  rw [tr_at hD hk, mk_leaf (by omega) (by omega) (by omega)]
  simp only [vT]
  rw [if_pos h1]
  rfl
def allN (f : Nat → Int) (m : Nat) : Int := if (List.range m).all (fun i => f i == 1) then 1 else 0
def anyN (f : Nat → Int) (m : Nat) : Int := if (List.range m).any (fun i => f i == 1) then 1 else 0
theorem allN_yes {f : Nat → Int} {m : Nat} (h : f m = 1) : allN f (m + 1) = allN f m := by
  unfold allN; rw [List.range_succ, List.all_append]; simp [h]
theorem allN_no {f : Nat → Int} {m : Nat} (h : ¬ f m = 1) : allN f (m + 1) = 0 := by
  unfold allN; rw [List.range_succ, List.all_append]; simp [h]
theorem anyN_yes {f : Nat → Int} {m : Nat} (h : f m = 1) : anyN f (m + 1) = 1 := by
  unfold anyN; rw [List.range_succ, List.any_append]; simp [h]
theorem anyN_no {f : Nat → Int} {m : Nat} (h : ¬ f m = 1) : anyN f (m + 1) = anyN f m := by
  unfold anyN; rw [List.range_succ, List.any_append]; simp [h]
theorem anyN_bit (f : Nat → Int) (m : Nat) : anyN f m = 0 ∨ anyN f m = 1 := by unfold anyN; split <;> simp
theorem anyN_one {f : Nat → Int} {m : Nat} : anyN f m = 1 ↔ ∃ i, i < m ∧ f i = 1 := by
  unfold anyN
  constructor
  · intro h
    split at h
    · rename_i h2
      obtain ⟨i, h3, h4⟩ := List.any_eq_true.1 h2
      exact ⟨i, List.mem_range.1 h3, by simpa using h4⟩
    · cases h
  · rintro ⟨i, h1, h2⟩
    rw [if_pos (List.any_eq_true.2 ⟨i, List.mem_range.2 h1, by simpa using h2⟩)]
theorem allN_one {f : Nat → Int} {m : Nat} : allN f m = 1 ↔ ∀ i, i < m → f i = 1 := by
  unfold allN
  constructor
  · intro h i hi
    split at h
    · rename_i h2
      simpa using List.all_eq_true.1 h2 i (List.mem_range.2 hi)
    · cases h
  · intro h
    rw [if_pos (List.all_eq_true.2 fun i hi => by simpa using h i (List.mem_range.1 hi))]
theorem allN_bit (f : Nat → Int) (m : Nat) : allN f m = 0 ∨ allN f m = 1 := by unfold allN; split <;> simp
theorem vT_quant {l : List Nd} (hD : Down l) {k : Nat} (hk : k < l.length) (e : List Int) (hq : quant (nth l k).op = true) :
    vT (tr l k) e = if (nth l k).op = 19 then allN (fun i => vT (tr l (nth l k).a.toNat) (e.set (nth l k).k.toNat (i : Int))) (2 ^ (nth l k).b.toNat) else anyN (fun i => vT (tr l (nth l k).a.toNat) (e.set (nth l k).k.toNat (i : Int))) (2 ^ (nth l k).b.toNat) := by
  have hq2 : (nth l k).op = 19 ∨ (nth l k).op = 20 := by simpa [quant] using hq
  rw [tr_at hD hk, mk_one (by omega)]
  simp only [vT]
  rcases hq2 with h | h
  · rw [if_pos h, if_pos h]; rfl
  · have h19 : ¬ (nth l k).op = 19 := by omega
    rw [if_neg h19, if_pos h, if_neg h19]; rfl
theorem set_self (e : List Int) {i : Nat} (h : i < e.length) : e.set i (wd e (i : Int)) = e := by
  have : wd e (i : Int) = e[i] := (wd_get h).symm
  rw [this]; exact List.set_getElem_self h

theorem node_k {l : List Nd} (hD : Down l) (hN : ∀ k, k < l.length → nodeOk l k = true) {k : Nat} (hk : k < l.length) : 0 ≤ (nth l k).k ∧ (nth l k).k ≤ 255 := by
  have hok := hN k hk
  have hd := hD k hk
  simp only [nodeOk, Bool.and_eq_true] at hok
  have hs := hok.2
  have hw : ∀ p ∈ parts (nth l k), width l p ≤ 8 := fun p hp => by
    have h1 := hd p hp
    exact (node_width (hN p.toNat (by omega))).2
  have hw1 := of_decide_eq_true hok.1.2
  generalize nth l k = n at hs hw hw1
  unfold shapeOk at hs
  by_cases h0 : n.op = 0
  · rw [if_pos h0] at hs
    simp only [Bool.and_eq_true] at hs
    have := wok_iff.1 hs.1
    have h2 := p2_mono (show n.w.toNat ≤ 8 by omega)
    have h3 : p2 8 = 256 := rfl
    omega
  rw [if_neg h0] at hs
  by_cases h1 : n.op = 1
  · rw [if_pos h1] at hs
    have := of_decide_eq_true hs
    omega
  rw [if_neg h1] at hs
  by_cases h2 : n.op = 2
  · rw [if_pos h2] at hs
    have := of_decide_eq_true hs
    omega
  rw [if_neg h2] at hs
  by_cases h3 : 3 ≤ n.op ∧ n.op ≤ 12
  · rw [if_pos h3] at hs
    have := of_decide_eq_true hs
    omega
  rw [if_neg h3] at hs
  by_cases h4 : 13 ≤ n.op ∧ n.op ≤ 15
  · rw [if_pos h4] at hs
    have := of_decide_eq_true hs
    omega
  rw [if_neg h4] at hs
  by_cases h5 : n.op = 16
  · rw [if_pos h5] at hs
    have := of_decide_eq_true hs
    omega
  rw [if_neg h5] at hs
  by_cases h6 : n.op = 17
  · rw [if_pos h6] at hs
    have := of_decide_eq_true hs
    rw [parts_one (.inr (.inl h6))] at hw this
    have h8 := hw n.a (by simp)
    simp only [List.map_cons, List.map_nil, List.getD_cons_zero] at this
    omega
  rw [if_neg h6] at hs
  by_cases h7 : n.op = 18
  · rw [if_pos h7] at hs
    have := of_decide_eq_true hs
    omega
  rw [if_neg h7] at hs
  by_cases h8 : n.op = 19 ∨ n.op = 20
  · rw [if_pos h8] at hs
    have := of_decide_eq_true hs
    omega
  rw [if_neg h8] at hs
  cases hs
theorem wf_small {k : Int} (h : 0 ≤ k ∧ k ≤ 255) : (Go.Lit.int .i64 k).wf = true := by
  simp [Go.Lit.wf, Go.IntKind.min, Go.IntKind.max, Go.IntKind.signed, Go.IntKind.bits]; omega

end Go.Proofs.YtjfikpfdhjbheaaGreat.Vm0

/- What is kept, past blocks that were made since. -/
namespace Go.Proofs.YtjfikpfdhjbheaaGreat.Kp1
open Go.RowKit
open Nd0 Rw0 Rw1 Tm6
theorem Kept.past {S T : Nat → Prop} {u v w : World} (h : Kept S u v) (k : Kept T v w) (hT : ∀ b, T b → S b ∨ u.heap.size ≤ b) : Kept S u w :=
  ⟨k.os.trans h.os, k.tape.trans h.tape, k.output.trans h.output, Nat.le_trans h.size k.size, fun i hi hb => (k.block i (Nat.lt_of_lt_of_le hi h.size) (fun t => by
    rcases hT i t with e | e
    · exact hb e
    · omega)).trans (h.block i hi hb)⟩
def Env (w : World) (g : Nat) (e : List Int) : Prop := Row w g 8 (fun i => .int .i64 (wd e (i : Int)))
theorem Env.kept {w w' : World} {g : Nat} {e : List Int} (h : Env w g e) {S : Nat → Prop} (k : Kept S w w') (hs : ¬ S g) : Env w' g e := Row.kept h k hs
theorem Env.lt {w : World} {g : Nat} {e : List Int} (h : Env w g e) : g < w.heap.size := Row.lt h (by omega)
theorem Env.set {w : World} {g : Nat} {e : List Int} (h : Env w g e) (he : e.length = 8) {p : Nat} (hp : p < 8) (x : Int) : Env (w.setCell ⟨g, p, none⟩ (.int .i64 x)) g (e.set p x) := row_set_int h he hp x
theorem Env.at {w : World} {g : Nat} {e : List Int} (h : Env w g e) {k : Int} (h0 : 0 ≤ k) (h7 : k ≤ 7) : w.cell? ⟨g, k.toNat, none⟩ = some (.int .i64 (wd e k)) ∧ w.frozen? ⟨g, k.toNat, none⟩ = false := by
  have := h k.toNat (by omega)
  dsimp only at this
  rw [Int.toNat_of_nonneg h0] at this
  exact this
end Go.Proofs.YtjfikpfdhjbheaaGreat.Kp1

/- Bits of small numbers. -/
namespace Go.Proofs.YtjfikpfdhjbheaaGreat.Bt0
open Go.RowKit
open Pl1 Vl1 Vl2
set_option linter.unusedVariables false

theorem nat8 {a : Int} (h : 0 ≤ a ∧ a ≤ 255) : ∃ m : Nat, a = (m : Int) ∧ m < 2 ^ 8 := ⟨a.toNat, by omega, by omega⟩
theorem wrap8 {m : Nat} (h : m < 2 ^ 8) : IntKind.i64.wrap (m : Int) = (m : Int) := by rw [IntKind.wrap_i64]; omega
theorem mod64 {m : Nat} (h : m < 2 ^ 8) : m % 2 ^ 64 = m := Nat.mod_eq_of_lt (by omega)
theorem band {a b : Int} (ha : 0 ≤ a ∧ a ≤ 255) (hb : 0 ≤ b ∧ b ≤ 255) : bits .and .i64 a b = nAnd a b := by
  obtain ⟨m, rfl, hm⟩ := nat8 ha
  obtain ⟨n, rfl, hn⟩ := nat8 hb
  have e : bits .and .i64 (m : Int) (n : Int) = IntKind.i64.wrap ((BitVec.ofInt 64 (m : Int) &&& BitVec.ofInt 64 (n : Int)).toNat : Int) := rfl
  rw [e, BitVec.toNat_and, BitVec.ofInt_natCast, BitVec.ofInt_natCast, BitVec.toNat_ofNat, BitVec.toNat_ofNat, mod64 hm, mod64 hn, wrap8 (Nat.and_lt_two_pow _ hn)]
  rfl
theorem bor {a b : Int} (ha : 0 ≤ a ∧ a ≤ 255) (hb : 0 ≤ b ∧ b ≤ 255) : bits .or .i64 a b = nOr a b := by
  obtain ⟨m, rfl, hm⟩ := nat8 ha
  obtain ⟨n, rfl, hn⟩ := nat8 hb
  have e : bits .or .i64 (m : Int) (n : Int) = IntKind.i64.wrap ((BitVec.ofInt 64 (m : Int) ||| BitVec.ofInt 64 (n : Int)).toNat : Int) := rfl
  rw [e, BitVec.toNat_or, BitVec.ofInt_natCast, BitVec.ofInt_natCast, BitVec.toNat_ofNat, BitVec.toNat_ofNat, mod64 hm, mod64 hn, wrap8 (Nat.or_lt_two_pow hm hn)]
  rfl
theorem bxor {a b : Int} (ha : 0 ≤ a ∧ a ≤ 255) (hb : 0 ≤ b ∧ b ≤ 255) : bits .xor .i64 a b = nXor a b := by
  obtain ⟨m, rfl, hm⟩ := nat8 ha
  obtain ⟨n, rfl, hn⟩ := nat8 hb
  have e : bits .xor .i64 (m : Int) (n : Int) = IntKind.i64.wrap ((BitVec.ofInt 64 (m : Int) ^^^ BitVec.ofInt 64 (n : Int)).toNat : Int) := rfl
  rw [e, BitVec.toNat_xor, BitVec.ofInt_natCast, BitVec.ofInt_natCast, BitVec.toNat_ofNat, BitVec.toNat_ofNat, mod64 hm, mod64 hn, wrap8 (Nat.xor_lt_two_pow hm hn)]
  rfl
theorem bor16 {m n : Nat} (hm : m < 2 ^ 9) (hn : n < 2 ^ 9) : bits .or .i64 (m : Int) (n : Int) = ((m ||| n : Nat) : Int) := by
  have e : bits .or .i64 (m : Int) (n : Int) = IntKind.i64.wrap ((BitVec.ofInt 64 (m : Int) ||| BitVec.ofInt 64 (n : Int)).toNat : Int) := rfl
  have h := Nat.or_lt_two_pow hm hn
  rw [e, BitVec.toNat_or, BitVec.ofInt_natCast, BitVec.ofInt_natCast, BitVec.toNat_ofNat, BitVec.toNat_ofNat, Nat.mod_eq_of_lt (by omega), Nat.mod_eq_of_lt (by omega), IntKind.wrap_i64]
  omega

end Go.Proofs.YtjfikpfdhjbheaaGreat.Bt0
