/- Small texts of mine, one behind the other. -/
import Derived.Deep.CutBlock
import Derived.Deep.RegionHeld
import Derived.Laws.MakeOwn
import Derived.Shelf.Abstract
import Derived.Test.YtjfikpfdhjbheaaGreatPkCL28
import Derived.Test.YtjfikpfdhjbheaaGreatPb8
import Derived.Test.YtjfikpfdhjbheaaGreatPkCL17
import Derived.Test.YtjfikpfdhjbheaaGreatPkCL20
import Derived.Test.YtjfikpfdhjbheaaGreatPkCL0
import Derived.Test.YtjfikpfdhjbheaaGreatPkCL29
import Derived.Test.YtjfikpfdhjbheaaGreatPkCL21
import Derived.Test.YtjfikpfdhjbheaaGreatPkCL18
/- The program's CloseAll. -/
namespace Go.Proofs.YtjfikpfdhjbheaaGreat.Pb9
open Go.RowKit
open Nd0 Nd3 Tm0 Tm8 Aq0 Aq2 Aq12 Ar0 Pb3
open Ap2 (Own)
open Qa0 Qi0
open Lx1 (ITermOk)
open Pb8 (iFirst)
set_option linter.unusedVariables false

theorem closed_no {w W : World} {l : List Nd} (h : clB l = false ∧ clL l = []) (hB : Below w.heap.size w W) (g : Nat) :
    (∃ a' c', Ending.returned (.tuple #[.slice (some ⟨g, 0, none⟩) 0 0, .bool false]) = .returned (.tuple #[.slice a' (clL l).length c', .bool (clB l)]) ∧ WNodes (W.alloc (.cells #[] 42)) w.heap.size a' (clL l) ∧ (clL l).length ≤ c') ∧ Below w.heap.size w (W.alloc (.cells #[] 42)) := by
  rw [h.1, h.2]
  exact ⟨⟨_, _, rfl, ⟨Nat.zero_le _, .inl rfl⟩, Nat.zero_le _⟩, hB.alloc hB.size _⟩

set_option maxRecDepth 100000 in
set_option maxHeartbeats 4000000 in
theorem iCloseAll (hTO : ITermOk) (w : World) (a : Option Addr) (l : List Nd) (c : Nat) (hN : Nodes w a l) (hcap : l.length ≤ c) :
    Calls Tryz.prog 9 #[.slice a l.length c] w fun e w' => (∃ a' c', e = .returned (.tuple #[.slice a' (clL l).length c', .bool (clB l)]) ∧ WNodes w' w.heap.size a' (clL l) ∧ (clL l).length ≤ c') ∧ Below w.heap.size w w' := by
  have HN : Hid (Nodes w a l) := hN
  have HTO : Hid ITermOk := hTO
  have HCAP : Hid (l.length ≤ c) := hcap
  clear hcap hN hTO
  go_enter Tryz.func9, Tryz.ntmps9
  go_wp2_with fail
  refine (iTO HTO.out _ _ l c HN.out HCAP.out).mono ?_
  rintro e w1 ⟨rfl, hb1⟩
  have HB1 : Hid (Below w.heap.size w w1) := hb1
  have hs1 := hb1.size
  clear hb1
  cases hT : termOk l
  · have HE : Hid (clB l = false ∧ clL l = []) := cl_term hT
    go_wp2
    go_ret2
    exact closed_no HE.out HB1.out _
  · have HT : Hid (termOk l = true) := hT
    obtain ⟨hl1, hl2⟩ := term_len hT
    clear hT
    have HN1 : Hid (Nodes w1 a l) := HN.out.below HB1.out
    rcases HN1.out.2 with h0 | ⟨b, o, rfl, hc⟩
    · omega
    obtain ⟨-, p1, -, -, -, -⟩ := hc (l.length - 1) (by omega)
    rw [nth_get (by omega)] at p1
    have HBL : Hid (b < w.heap.size) := by
      rcases HN.out.2 with h0 | ⟨b', o', he, hc'⟩
      · omega
      · cases he; exact (hc' 0 (by omega)).lt
    clear hc
    have g1 : (0 : Int) ≤ (l.length : Int) - 1 := by omega
    have g2 : (l.length : Int) - 1 < (l.length : Int) := by omega
    obtain ⟨z, hz⟩ : ∃ z : Int, z = (nth l (l.length - 1)).w := ⟨_, rfl⟩
    rw [← hz] at p1
    cases hw : (z == 1)
    · have HE : Hid (clB l = false ∧ clL l = []) := cl_wid (by rw [← hz]; exact hw)
      have hne : (z != 1) = true := by simpa using hw
      clear hw hz
      go_wp2
      go_ret2
      exact closed_no HE.out HB1.out _
    · have HE : Hid (clB l = termOk (clAll l) ∧ clL l = if termOk (clAll l) then clAll l else []) := cl_all HT.out (by rw [← hz]; exact hw)
      have hne : (z != 1) = false := by simpa using hw
      clear hw hz
      obtain ⟨W1, hW1⟩ : ∃ W1 : World, W1 = w1.alloc (.cells #[] 42) := ⟨_, rfl⟩
      have HQ1 : Hid (Own W1 w1.heap.size (.slice (some ⟨w1.heap.size, 0, none⟩) 0 0) []) := by rw [hW1]; exact Ap2.Own.lit w1 _ (Nat.le_refl _)
      have hb1 : Below w1.heap.size w1 W1 := by rw [hW1]; exact (Below.refl _ _).alloc (Nat.le_refl _) _
      have HBW : Hid (Below w.heap.size w W1) := HB1.out.trans (hb1.mono hs1)
      have HNW : Hid (Nodes W1 (some ⟨b, o, none⟩) l) := HN1.out.below hb1
      have hsw : w1.heap.size < W1.heap.size := by rw [hW1]; simp
      clear hb1
      go_upto_region 4 with fail
      rw [← hW1]
      clear hW1 p1
      obtain ⟨q0, hq0⟩ : ∃ q0 : Nat, q0 = w1.heap.size := ⟨_, rfl⟩
      rw [← hq0] at HQ1 hsw ⊢
      have HQ0 : Hid (w.heap.size ≤ q0) := by show _ ≤ _; omega
      clear hq0 hs1
      go_wp2_with fail
      refine (iFirst W1 _ l c HNW.out HT.out).mono ?_
      rintro e w2 ⟨⟨f, rfl, hf⟩, hb2⟩
      have HFF : Hid (∀ v, v < 8 → f v = ffTop l v) := hf
      have HB2 : Hid (Below w.heap.size w w2) := HBW.out.trans (hb2.mono HBW.out.size)
      have HN2 : Hid (Nodes w2 (some ⟨b, o, none⟩) l) := HNW.out.below hb2
      have HQ2 : Hid (Own w2 q0 (.slice (some ⟨q0, 0, none⟩) 0 0) []) := HQ1.out.kept (S := fun _ => False) (Kept.ofBelow hb2) (fun _ _ h => h)
      have hs2 : q0 < w2.heap.size := by have := hb2.size; omega
      clear hf hb2 HBW HNW HQ1 hsw
      obtain ⟨W2, hW2⟩ : ∃ W2 : World, W2 = w2.alloc (.cells #[.int .i64 (f 0), .int .i64 (f 1), .int .i64 (f 2), .int .i64 (f 3), .int .i64 (f 4), .int .i64 (f 5), .int .i64 (f 6), .int .i64 (f 7)] 43) := ⟨_, rfl⟩
      have hb3 : Below w2.heap.size w2 W2 := by rw [hW2]; exact (Below.refl _ _).alloc (Nat.le_refl _) _
      have HB3 : Hid (Below w.heap.size w W2) := HB2.out.trans (hb3.mono HB2.out.size)
      have HN3 : Hid (Nodes W2 (some ⟨b, o, none⟩) l) := HN2.out.below hb3
      have HQ3 : Hid (Own W2 q0 (.slice (some ⟨q0, 0, none⟩) 0 0) []) := HQ2.out.kept (S := fun _ => False) (Kept.ofBelow hb3) (fun _ _ h => h)
      have HA3 : Hid (ArAt W2 w2.heap.size 0 f) := by rw [hW2]; exact ⟨by simp, by simp, by simp, by simp, by simp, by simp, by simp, by simp⟩
      clear hb3 HB2 HN2 HQ2
      go_upto_region 5 with fail
      rw [← hW2]
      clear hW2
      obtain ⟨F, hF⟩ : ∃ F : Nat, F = w2.heap.size := ⟨_, rfl⟩
      rw [← hF] at HA3 hs2 ⊢
      clear hF
      go_wp2_with fail
      go_loopw [4, 6] (fun qv i wr => ∃ k g cp : Nat, k ≤ 8 ∧ i = .int .i64 (7 - (k : Int)) ∧ qv = .slice (some ⟨g, 0, none⟩) (clTo l k).length cp ∧ Own wr q0 (.slice (some ⟨g, 0, none⟩) (clTo l k).length cp) (clTo l k) ∧ g ≠ F ∧ ArAt wr F 0 f ∧ Nodes wr (some ⟨b, o, none⟩) l ∧ Below w.heap.size w wr) (fun _ i _ => (intOf i + 1).toNat)
      case atStart => exact ⟨0, q0, 0, by omega, rfl, rfl, HQ3.out, by omega, HA3.out, HN3.out, HB3.out⟩
      case round =>
        clear HQ3 HA3 HN3 HB3
        obtain ⟨k, g, cp, hk, rfl, rfl, ho, hne2, ha, hn, hb⟩ := hrel
        obtain ⟨wb, rfl⟩ : ∃ wb : World, wb = wr := ⟨_, rfl⟩
        have HO : Hid (Own wb q0 (.slice (some ⟨g, 0, none⟩) (clTo l k).length cp) (clTo l k)) := ho
        have HNE : Hid (g ≠ F) := hne2
        have HA : Hid (ArAt wb F 0 f) := ha
        have HNB : Hid (Nodes wb (some ⟨b, o, none⟩) l) := hn
        have HBB : Hid (Below w.heap.size w wb) := hb
        have hqb : q0 ≤ wb.heap.size := by have h1 := (ho.lt g rfl).1; have h2 := (ho.lt g rfl).2; omega
        have hcl := clTo_le l k
        have HGB : Hid (g ≠ b) := fun e => by have h1 := (ho.lt g rfl).1; have h2 := HQ0.out; have h3 := HBL.out; omega
        clear ho hne2 ha hn hb
        by_cases hk8 : k < 8
        · have hkz : (0 : Int) ≤ 7 - (k : Int) := by omega
          obtain ⟨v, hv⟩ : ∃ v : Nat, v = 7 - k := ⟨_, rfl⟩
          have hv8 : v < 8 := by omega
          have e7 : 7 - (k : Int) = (v : Int) := by omega
          have hvz : (v : Int) < 8 := by omega
          have hv0 : (0 : Int) ≤ (v : Int) := by omega
          have p0 := HA.out.at hv8
          rw [Nat.zero_add, HFF.out v hv8] at p0
          rw [e7]
          have HVK : Hid (v = 7 - k) := hv
          have HV7 : Hid (7 - (k : Int) = (v : Int)) := e7
          clear hv e7
          by_cases h80 : ffTop l v = 80
          · have HCL : Hid (clTo l (k + 1) = clTo l k) := clTo_skip (by rw [← HVK.out]; exact h80)
            rw [h80] at p0
            clear h80
            go_wp2_with fail
            go_roundw
            case rel => exact ⟨k + 1, g, cp, by omega, by have h7 := HV7.out; congr 1; omega, by rw [HCL.out], by rw [HCL.out]; exact HO.out, HNE.out, HA.out, HNB.out, HBB.out⟩
            case measure => first | (simp [intOf]; omega) | simp [intOf]
          · have HCL : Hid (clTo l (k + 1) = clTo l k ++ [clN v ((l.length : Int) + ((clTo l k).length : Int) - 1) (widL l v)]) := by
              have := clTo_more (l := l) (k := k) (by rw [← HVK.out]; exact h80)
              rw [← HVK.out] at this
              exact this
            obtain ⟨j, hj1, hj2, hj3⟩ := wid_ff (down_of HT.out) v hl1 hl2 h80
            rw [hj1] at p0
            have hj80 : ((j : Int) == 80) = false := by simp; omega
            have hjz : (j : Int) < (l.length : Int) := by omega
            have hj0 : (0 : Int) ≤ (j : Int) := by omega
            rcases HNB.out.2 with h0 | ⟨b', o', he, hc⟩
            · omega
            obtain ⟨rfl, rfl⟩ : b = b' ∧ o = o' := by cases he; exact ⟨rfl, rfl⟩
            obtain ⟨-, p1, -, -, -, -⟩ := hc j hj2
            rw [nth_get hj2, ← hj3] at p1
            clear hc he h80 hj1 hj3
            generalize widL l v = u at p1 HCL
            obtain ⟨Q, hQ⟩ : ∃ Q, Q = clTo l k := ⟨_, rfl⟩
            rw [← hQ] at HO HCL hcl ⊢
            clear hQ
            go_wp2_with fail
            refine (iNewQ true (v : Int) u _).mono ?_
            rintro e w' ⟨rfl, hw'⟩
            have hw2 := hw'.symm
            clear hw'
            subst hw2
            go_wp2_with fail
            refine (iNodeOf ⟨true, (v : Int), u⟩ _ _).mono ?_
            rintro e w5 ⟨rfl, hb5⟩
            have HO5 : Hid (Own w5 q0 (.slice (some ⟨g, 0, none⟩) Q.length cp) Q) := HO.out.kept (S := fun _ => False) (Kept.ofBelow hb5) (fun _ _ h => h)
            have HA5 : Hid (ArAt w5 F 0 f) := HA.out.below hb5 HA.out.lt
            have HN5 : Hid (Nodes w5 (some ⟨b, o, none⟩) l) := HNB.out.below hb5
            have HB5 : Hid (Below w.heap.size w w5) := HBB.out.trans (hb5.mono HBB.out.size)
            have hq5 : q0 ≤ w5.heap.size := by have := hb5.size; omega
            clear hb5 HO HA HNB HBB p0 p1
            have hQz : IntKind.i64.wrap ((v : Int) - 1) = (v : Int) - 1 := by rw [IntKind.wrap_i64] <;> omega
            go_wp2_with (at_builtin; go_must (refine Ap2.app_node _ rfl _ _ rfl q0 (.slice (some ⟨g, 0, none⟩) Q.length cp) Q (clN v ((l.length : Int) + (Q.length : Int) - 1) u) rfl _ rfl rfl HO5.out hq5 (by omega) ?_; intro g9 cp9 w9 ho9 hk9 hg9))
            have HO9 : Hid (Own w9 q0 (.slice (some ⟨g9, 0, none⟩) (Q.length + 1) cp9) (Q ++ [clN v ((l.length : Int) + (Q.length : Int) - 1) u])) := ho9
            have HFL : Hid (F < w5.heap.size) := HA5.out.lt
            have HNE9 : Hid (g9 ≠ F) := fun e => by
              rcases hg9 with h1 | h1
              · exact HNE.out (by have h2 : g = g9 := Option.some.inj h1; rw [h2, e])
              · have := HFL.out; omega
            have hk9' : Kept (fun k => k = g) w5 w9 := ⟨hk9.os, hk9.tape, hk9.output, hk9.size, fun k hk hn => hk9.block k hk (fun e => hn (by cases e; rfl))⟩
            have HA9 : Hid (ArAt w9 F 0 f) := HA5.out.kept hk9' (fun e => HNE.out e.symm)
            have HB9 : Hid (Below w.heap.size w w9) := HB5.out.trans (hk9'.below (fun k (hk : k = g) => by have := (HO5.out.lt g rfl).1; have := HQ0.out; omega) HB5.out.size)
            have HN9 : Hid (Nodes w9 (some ⟨b, o, none⟩) l) := HN5.out.kept hk9' (fun x hx => by cases hx; exact fun e => HGB.out e.symm)
            clear ho9 hk9 hk9' hg9 HO5 HA5 HN5 HB5
            go_wp2
            go_roundw
            case rel =>
              have h7 := HV7.out
              exact ⟨k + 1, g9, cp9, by omega, by congr 1; omega, by rw [HCL.out, List.length_append]; rfl, by rw [HCL.out, List.length_append]; exact HO9.out, HNE9.out, HA9.out, HN9.out, HB9.out⟩
            case measure => first | (simp [intOf]; omega) | simp [intOf]
        · have hke : k = 8 := by omega
          subst hke
          have hkz : ¬ (0 : Int) ≤ 7 - ((8 : Nat) : Int) := by omega
          have hlen : l.length + (clTo l 8).length ≤ 1048577 := by have := clTo_le l 8; omega
          have HY : Hid (∀ i (h : i < (clTo l 8).length), NodeAt wb g (0 + i * 6) (clTo l 8)[i]) := fun i hi => by
            obtain ⟨av, cv, hv, hw⟩ := HO.out.form
            cases hv
            rcases hw.2 with h0 | ⟨b2, o2, he, _, hc, _⟩
            · omega
            · cases he
              exact hc i hi
          have HML : Hid (moreL (clAll l) = clL l ∧ termOk (clAll l) = clB l) := ⟨HE.out.2.symm, HE.out.1.symm⟩
          clear HO HA
          go_wp2_with fail
          refine (iBehind HTO.out wb b o g 0 l (clTo l 8) (clAll l) rfl c cp _ rfl HNB.out HY.out hlen).mono ?_
          rw [HML.out.1, HML.out.2]
          rintro e w6 ⟨⟨a', c', rfl, hw6, hc6⟩, hb6⟩
          have HW6 : Hid (WNodes w6 w.heap.size a' (clL l)) := by
            obtain ⟨h1, h2⟩ := hw6
            refine ⟨h1, ?_⟩
            rcases h2 with h0 | ⟨b2, o2, ha, hB, hcc, hf⟩
            · exact .inl h0
            · exact .inr ⟨b2, o2, ha, by have := HBB.out.size; omega, hcc, hf⟩
          have HB6 : Hid (Below w.heap.size w w6) := HBB.out.trans (hb6.mono HBB.out.size)
          have HC6 : Hid ((clL l).length ≤ c') := hc6
          clear hw6 hb6 hc6
          go_wp2
          go_ret2
          exact ⟨⟨_, _, rfl, HW6.out, HC6.out⟩, HB6.out⟩

end Go.Proofs.YtjfikpfdhjbheaaGreat.Pb9

/- A list of nodes that is not empty appended to one's own, at a step of a region that draws. -/
namespace Go.Proofs.YtjfikpfdhjbheaaGreat.Ap15
open Go.RowKit
open Nd0 Nd3 Ap2 Dw3 Ap7
set_option linter.unusedVariables false

end Go.Proofs.YtjfikpfdhjbheaaGreat.Ap15

/- The walk of the exact laws' copy of a list of nodes. -/
namespace Go.Proofs.YtjfikpfdhjbheaaGreat.Nd4
open Go.RowKit
open Nd0 Nd1 Nd3
set_option linter.unusedVariables false

end Go.Proofs.YtjfikpfdhjbheaaGreat.Nd4

/- The program's walk over a term, for nodes. -/
namespace Go.Proofs.YtjfikpfdhjbheaaGreat.Aw2
open Go.RowKit
open Nd0 Nd3 Pl1 Tm0 Tm1 Tm8 Pg1 Pg2 Aq0
open Ap2 (app_node)

open Aw1 (nv)
set_option linter.unusedVariables false

end Go.Proofs.YtjfikpfdhjbheaaGreat.Aw2

/- The program's joinTerms, of two terms. -/
namespace Go.Proofs.YtjfikpfdhjbheaaGreat.Pb10
open Go.RowKit
open Nd0 Nd3 Tm0 Tm8 Rw0 Ap0 Ap15 Aq0 Aq1 Aw2 Pg1
open Aw1 (nv)
open Ap2 (Own)

open Tm3 (parts_cases)
set_option linter.unusedVariables false

end Go.Proofs.YtjfikpfdhjbheaaGreat.Pb10

/- The program's joinTerms, of two terms. Written by tools/mkpb11.py. -/
namespace Go.Proofs.YtjfikpfdhjbheaaGreat.Pb11
open Go.RowKit
open Nd0 Nd3 Tm0 Tm8 Rw0 Ap0 Ap15 Aq0 Aq1 Aw2 Pg1 Pb10
open Aw1 (nv)
open Ap2 (Own)

set_option linter.unusedVariables false

end Go.Proofs.YtjfikpfdhjbheaaGreat.Pb11

/- The program's Valid and Equal. Region 4 of Equal step by step. -/
namespace Go.Proofs.YtjfikpfdhjbheaaGreat.Pb12
open Go.RowKit
open Nd0 Nd3 Tm0 Tm8 Ap15 Aq0 Aq1 Aq12 Pb3 Vl5
open Ap2 (Own)
open Lx1 (ITermOk)
open Ic4 (IHolds)
open Pb9 (iCloseAll)

set_option linter.unusedVariables false

set_option maxRecDepth 100000 in
set_option maxHeartbeats 2000000 in
theorem iValid (hTO : ITermOk) (hHO : IHolds) (w : World) (a : Option Addr) (l : List Nd) (c : Nat) (hN : Nodes w a l) (hcap : l.length ≤ c) :
    Calls Tryz.prog 7 #[.slice a l.length c] w fun e w' => e = .returned (.tuple #[.int .i64 ((holdsL (clL l)).getD 0), .bool (holdsL (clL l)).isSome]) ∧ Below w.heap.size w w' := by
  have HN : Hid (Nodes w a l) := hN
  have HTO : Hid ITermOk := hTO
  have HHO : Hid IHolds := hHO
  have HCAP : Hid (l.length ≤ c) := hcap
  clear hN hTO hHO hcap
  go_enter Tryz.func7, Tryz.ntmps7
  go_wp2_with fail
  refine (iCloseAll HTO.out _ _ l c HN.out HCAP.out).mono ?_
  rintro e w1 ⟨⟨a', c', rfl, hw1, hc1⟩, hb1⟩
  have HW1 : Hid (Nodes w1 a' (clL l)) := hw1.nodes
  have HC1 : Hid ((clL l).length ≤ c') := hc1
  have HB1 : Hid (Below w.heap.size w w1) := hb1
  have HL8 : Hid ((clL l).length ≤ 1048576) := Nat.le_trans (clL_le l) (by omega)
  clear hw1 hb1 hc1
  generalize hu : clL l = u at HW1 HC1 HL8 ⊢
  have HU : Hid (clL l = u) := hu
  clear hu
  go_wp2_with fail
  refine (HHO.out _ _ u c' HW1.out HC1.out HL8.out).mono ?_
  rintro e w2 ⟨rfl, hb2⟩
  have HB2 : Hid (Below w.heap.size w w2) := HB1.out.trans (hb2.mono HB1.out.size)
  clear hb2
  go_wp2
  go_ret2
  rw [HU.out]
  exact ⟨rfl, HB2.out⟩

end Go.Proofs.YtjfikpfdhjbheaaGreat.Pb12

/- The walks of the model's Valid and Equal. -/
namespace Go.Proofs.YtjfikpfdhjbheaaGreat.Am10
open Go.RowKit
open Nd0 Nd3 Tm0 Tm8 Aq0 Aq1 Aq12 Vl5
open Ap2 (Own app_node)
open Sv6 (vRes)
open Sv7 (sHolds)
open Am8 (sCloseAll)


set_option linter.unusedVariables false

theorem holds_nil : holdsL [] = none := by
  unfold holdsL
  have : Tm6.sentB [] = false := Tm6.sent_term (by decide)
  rw [this]; rfl

set_option maxRecDepth 100000 in
set_option maxHeartbeats 2000000 in
theorem sValid (w : World) (a : Option Addr) (l : List Nd) (c : Nat) (hN : Nodes w a l) :
    Calls Tryz.prog 8 #[.slice a l.length c] w fun e w' => e = .returned (.tuple #[.int .i64 ((holdsL (clL l)).getD 0), .bool (holdsL (clL l)).isSome]) ∧ Below w.heap.size w w' := by
  have HN : Hid (Nodes w a l) := hN
  clear hN
  go_enter Tryz.func8, Tryz.ntmps8
  go_wp2_with fail
  refine (sCloseAll _ _ l c HN.out).mono ?_
  rintro e w1 ⟨⟨a', c', rfl, hw1⟩, hb1⟩
  have HW1 : Hid (Nodes w1 a' (clL l)) := hw1.nodes
  have HB1 : Hid (Below w.heap.size w w1) := hb1
  have HCB : Hid (clB l = false → clL l = []) := fun h => by unfold clL; rw [h]; rfl
  clear hw1 hb1
  cases hc : clB l
  · have HE : Hid (clL l = []) := HCB.out hc
    clear hc
    go_wp2
    go_ret2
    rw [HE.out, holds_nil]
    exact ⟨rfl, HB1.out⟩
  · clear hc HCB
    generalize hu : clL l = u at HW1 ⊢
    have HU : Hid (clL l = u) := hu
    clear hu
    go_wp2_with fail
    refine (sHolds _ _ u c' HW1.out).mono ?_
    unfold vRes
    rintro e w2 ⟨rfl, hb2⟩
    have HB2 : Hid (Below w.heap.size w w2) := HB1.out.trans (hb2.mono HB1.out.size)
    clear hb2
    go_wp2
    go_ret2
    rw [HU.out]
    exact ⟨rfl, HB2.out⟩

end Go.Proofs.YtjfikpfdhjbheaaGreat.Am10
