/- Small texts of mine, one behind the other. -/
import Derived.Test.YtmjmnfegaoegjaaGreatDoorRows
import Derived.WalkKit
import Derived.WalkSpells
import Derived.WalkLawsBesides
import Derived.Deep.QuietTactic
import Derived.BigQuiet
import Derived.Deep.CutBlock
import Derived.Deep.CutRange
import Derived.SizedLaws
import Derived.LaidHandle
import Derived.Stop.Joined
import Derived.Lay
import Derived.Test.YtmjmnfegaoegjaaGreatDoorPkLD0
import Derived.Test.YtmjmnfegaoegjaaGreatDoorPkLD2
import Derived.Test.YtmjmnfegaoegjaaGreatDoorRd2
import Derived.Test.YtmjmnfegaoegjaaGreatDoorPkLD44
import Derived.Test.YtmjmnfegaoegjaaGreatDoorZl12
import Derived.Test.YtmjmnfegaoegjaaGreatDoorPkLD33
/- Walks of chapter 1: the small functions on words, in the program and in its model. -/
namespace Go.Proofs.YtmjmnfegaoegjaaGreatDoor.Wd1
open Go.RowKit
open Pl1
set_option linter.unusedVariables false

theorem ret_bool {a b : Bool} (h : a = b) : Ending.returned (.bool a) = .returned (.bool b) := by rw [h]

end Go.Proofs.YtmjmnfegaoegjaaGreatDoor.Wd1

/- Walks of the draws of chapter 1: a cursor made, widths and values drawn. -/
namespace Go.Proofs.YtmjmnfegaoegjaaGreatDoor.Dr2
open Go.RowKit
open Dr0 Dr1 Pl1 Wd1
set_option linter.unusedVariables false

end Go.Proofs.YtmjmnfegaoegjaaGreatDoor.Dr2

/- Walks of the draws of chapter 1: values of a width, and the draws themselves. -/
namespace Go.Proofs.YtmjmnfegaoegjaaGreatDoor.Dr3
open Go.RowKit
open Dr0 Dr1 Dr2 Pl1 Wd1
set_option linter.unusedVariables false

end Go.Proofs.YtmjmnfegaoegjaaGreatDoor.Dr3

/- Walks of chapter 1: the operations on words, in the program and in its model: each answers the same plain function. -/
namespace Go.Proofs.YtmjmnfegaoegjaaGreatDoor.Wd2
open Go.RowKit
open Pl1 Wd1
set_option linter.unusedVariables false

end Go.Proofs.YtmjmnfegaoegjaaGreatDoor.Wd2

/- Walks of chapter 1, second part: division, shifts, flips, orders, joins and slices of words, in the program and in its model. -/
namespace Go.Proofs.YtmjmnfegaoegjaaGreatDoor.Wd3
open Go.RowKit
open Pl1 Wd1 Wd2
set_option linter.unusedVariables false

end Go.Proofs.YtmjmnfegaoegjaaGreatDoor.Wd3

/- Walks of chapter 1, third part: shifts, flips and orders of words, in the program and in its model. -/
namespace Go.Proofs.YtmjmnfegaoegjaaGreatDoor.Wd4
open Go.RowKit
open Pl1 Wd1 Wd2 Wd3
set_option linter.unusedVariables false

end Go.Proofs.YtmjmnfegaoegjaaGreatDoor.Wd4

/- Walks of chapter 1, fourth part: orders, joins and slices of words, in the program and in its model. -/
namespace Go.Proofs.YtmjmnfegaoegjaaGreatDoor.Wd5
open Go.RowKit
open Pl1 Wd1 Wd2 Wd3 Wd4
set_option linter.unusedVariables false

end Go.Proofs.YtmjmnfegaoegjaaGreatDoor.Wd5

/- Walks of what the laws themselves call: powers of two, a byte of the code, whether the code is too great. -/
namespace Go.Proofs.YtmjmnfegaoegjaaGreatDoor.Lw0
open Go.RowKit
open Dr0 Dr1 Dr2 Dr3 Pl1 Wd1
set_option linter.unusedVariables false

set_option maxHeartbeats 400000 in
theorem lbig (w : World) (a : Option Addr) (len cap : Nat) (b : Bool) (hb : b = decide (1048576 < len)) :
    Calls Tryz.prog 6 #[.slice a len cap] w fun e w' => e = .returned (.bool b) ∧ w' = w := by
  subst hb
  go_enter Tryz.func6, Tryz.ntmps6
  go_wp2
  go_ret
  exact ⟨ret_bool (by rw [Bool.eq_iff_iff]; simp; omega), rfl⟩

end Go.Proofs.YtmjmnfegaoegjaaGreatDoor.Lw0

/- The law FnLoad. -/
namespace Go.Proofs.YtmjmnfegaoegjaaGreatDoor.Lld1
open Go.RowKit
open Nd0 (Kept lt_of_cell)
open Dr0 (Bytes)
open Mm0 Mx0 Zl1 Zl2 Zl11 Zl12
open Mm2 (mokB)
open Zl0 (mc0)
open Mi4 (iMachineOk)
open Qc0 (Sn)
open Zs0 (svS svB savT lin linTo linTo_next bod)
open Zs7 (SvP TabE iSave)
open Zm1 (linTo_le)
open Lw0 (lbig)
open Rd2 (drawLoad XP)
open Ss0 (bs bs_size)
open Ss1 (tl bs_tl tl_bs tl_length)
set_option linter.unusedVariables false

theorem key_in (m : Mc) {x : Sn} (hx : x ∈ m.memo) : x.k.size ≤ (savT m).length := by
  obtain ⟨j, hj, rfl⟩ := List.mem_iff_getElem.1 hx
  have h1 : (linTo m (j + 7 + 1)).flatten.length ≤ (savT m).length := linTo_le m (by omega)
  have h2 : (lin m (j + 7)).length ≤ (linTo m (j + 7 + 1)).flatten.length := by
    rw [linTo_next, List.flatten_append, List.length_append]
    simp
  have h3 : (tl m.memo[j].k).length ≤ (lin m (j + 7)).length := by
    unfold lin
    rw [show bod m (j + 7) = tl m.memo[j].k ++ (32 :: Lib.itoa m.memo[j].r) from by
      show (match m.memo[j]? with | some x => tl x.k ++ (32 :: Lib.itoa x.r) | none => []) = _
      rw [List.getElem?_eq_getElem hj]]
    simp only [List.length_append, List.length_cons]
    omega
  rw [tl_length] at h3
  omega
structure Rdm (s : List UInt8) (m : Mc) : Prop where
  sv : svB m = true
  tx : svS m = bs s
  ok : mokB m = true
  sz : m.S.size ≤ 1048576
  ks : ∀ x ∈ m.memo, x.k.size ≤ 1048576
theorem rdm {s : List UInt8} {m : Mc} (h : ldP s = some m) : Rdm s m := by
  have h0 := ldP_ok h
  unfold okL at h0
  obtain ⟨h1, h2⟩ := Bool.and_eq_true_iff.1 h0
  have e := of_decide_eq_true h2
  obtain ⟨h3, h4, h5⟩ := sv_mok h1
  refine ⟨h1, by unfold svS; rw [h1, if_pos rfl, e], (Mu8.mok_iff m).2 h3, ?_, fun x hx => Nat.le_trans (key_in m hx) (by omega)⟩
  obtain ⟨n, F, hn, _, e2⟩ := Ta1.tok_tab h3.tab
  have : m.S.size = (tl m.S).length := (tl_length _).symm
  rw [this, e2, Ta1.tab_length]
  have := (Ta1.p12 hn).2
  omega

set_option maxRecDepth 100000 in
set_option maxHeartbeats 8000000 in
theorem lawLoad (w : World) (hT : TabE w) (a : Option Addr) (len cap : Nat) (hb : Bytes w a len) :
    Calls Tryz.prog 5 #[.slice a len cap] w fun e w' => e = .returned (.bool true) ∧ Below w.heap.size w w' := by
  have HB : Hid (Bytes w a len) := hb
  have HT : Hid (TabE w) := hT
  clear hb hT
  by_cases hs : 1048576 < len
  · go_enter Tryz.func5, Tryz.ntmps5
    go_wp2_with fail
    refine (lbig _ a len cap true (by simp; omega)).mono ?_
    rintro e w' ⟨rfl, rfl⟩
    go_wp2
    go_ret
    exact ⟨rfl, Below.refl _ _⟩
  go_enter Tryz.func5, Tryz.ntmps5
  go_wp2_with fail
  refine (lbig _ a len cap false (by simp; omega)).mono ?_
  rintro e w0 ⟨rfl, hw0⟩
  have hw0' := hw0.symm
  clear hw0
  subst hw0'
  go_wp2_with fail
  refine (drawLoad _ a len cap HB.out).mono ?_
  rintro e w1 ⟨⟨S, rfl, hS⟩, hb1⟩
  obtain ⟨s, hsS⟩ : ∃ s, s = tl S := ⟨_, rfl⟩
  have hSs : S = bs s := by rw [hsS, bs_tl]
  have hsl : s.length ≤ 1048576 := by rw [hsS, tl_length]; exact hS
  subst hSs
  clear hsS hS
  have HB1 : Hid (Below w.heap.size w w1) := hb1
  clear hb1
  go_wp2_with fail
  refine (iLoad s w1 hsl (HT.out.below HB1.out)).mono ?_
  rintro e w2 ⟨hlm, hb2⟩
  have HB2 : Hid (Below w.heap.size w w2) := HB1.out.trans (hb2.mono HB1.out.size)
  clear hb2
  cases hld : ldP s with
  | none =>
    have hlm2 := hlm.2 hld
    subst hlm2
    have hmd : ldM s = none := by rw [← ld_same, hld]
    have HMD : Hid (ldM s = none) := hmd
    clear hlm hld hmd
    go_upto_region 5 with fail
    obtain ⟨w3, hw3⟩ : ∃ y, y = w2.alloc (.cells #[.slice none mc0.row.length 0, .int .i64 mc0.N, .string mc0.S, .int .i64 mc0.room, .slice none mc0.vals.length 0, .int .i64 mc0.ret, .bool mc0.over, .int .i64 mc0.steps, .int .i64 mc0.looks, .int .i64 mc0.hits, .slice none mc0.memo.length 0] 30) := ⟨_, rfl⟩
    obtain ⟨p, hp⟩ : ∃ p, p = w2.heap.size := ⟨_, rfl⟩
    have HM3 : Hid (Mb w3 p mc0 none none none 0 0 0) := by rw [hw3, hp]; exact Mb.made _ _ _ _ _ _ _ _ _
    have HB3 : Hid (Below w.heap.size w w3) := by rw [hw3]; exact HB2.out.alloc HB2.out.size _
    rw [← hw3, ← hp]
    clear hw3 hp HB2
    go_wp2_with fail
    refine (sLoad s w3 hsl).mono ?_
    rintro e w4 ⟨hls, hb4⟩
    have hls2 := hls.2 HMD.out
    subst hls2
    have HM4 : Hid (Mb w4 p mc0 none none none 0 0 0) := HM3.out.below hb4
    have HB4 : Hid (Below w.heap.size w w4) := HB3.out.trans (hb4.mono HB3.out.size)
    clear hls hb4 HM3 HB3
    go_upto_region 6 with fail
    obtain ⟨w5, hw5⟩ : ∃ y, y = w4.alloc (.cells #[.slice none mc0.row.length 0, .int .i64 mc0.N, .string mc0.S, .int .i64 mc0.room, .slice none mc0.vals.length 0, .int .i64 mc0.ret, .bool mc0.over, .int .i64 mc0.steps, .int .i64 mc0.looks, .int .i64 mc0.hits, .slice none mc0.memo.length 0] 30) := ⟨_, rfl⟩
    have HM5 : Hid (Mb w5 p mc0 none none none 0 0 0) := by rw [hw5]; exact HM4.out.alloc _
    have HB5 : Hid (Below w.heap.size w w5) := by rw [hw5]; exact HB4.out.alloc HB4.out.size _
    rw [← hw5]
    clear hw5 HM4 HB4
    obtain ⟨c0, c1, c2, c3, c4, c5, c6, c7, c8, c9, c10⟩ := HM5.out
    have c0' : w5.cell? ⟨p, 0, none⟩ = some (.slice none 0 0) := c0
    have c2' : w5.cell? ⟨p, 2, none⟩ = some (.string ⟨#[]⟩) := c2
    clear c0 c1 c2 c3 c4 c5 c6 c7 c8 c9 c10
    go_wp2
    go_ret
    exact ⟨rfl, HB5.out⟩
  | some m =>
    obtain ⟨q, ra, va, ma, rc, vc, mc, u1, u2, rfl, _, hlD⟩ := hlm.1 m hld
    have HR : Hid (Mr w2 m ra va ma) := hlD.mr
    have hmd : ldM s = some m := by rw [← ld_same, hld]
    have HMD : Hid (ldM s = some m) := hmd
    have HRD : Hid (Rdm s m) := rdm hld
    clear hlm hld hmd hlD
    go_upto_region 5 with fail
    obtain ⟨w3, hw3⟩ : ∃ y, y = w2.alloc (.cells #[.slice ra m.row.length rc, .int .i64 m.N, .string m.S, .int .i64 m.room, .slice va m.vals.length vc, .int .i64 m.ret, .bool m.over, .int .i64 m.steps, .int .i64 m.looks, .int .i64 m.hits, .slice ma m.memo.length mc] 30) := ⟨_, rfl⟩
    obtain ⟨p, hp⟩ : ∃ p, p = w2.heap.size := ⟨_, rfl⟩
    have HM3 : Hid (Mb w3 p m ra va ma rc vc mc) := by rw [hw3, hp]; exact Mb.made _ _ _ _ _ _ _ _ _
    have hb23 : Below w2.heap.size w2 w3 := by rw [hw3]; exact (Below.refl _ _).alloc (Nat.le_refl _) _
    have HB3 : Hid (Below w.heap.size w w3) := HB2.out.trans (hb23.mono HB2.out.size)
    have HR3 : Hid (Mr w3 m ra va ma) := HR.out.below hb23
    rw [← hw3, ← hp]
    clear hw3 hp hb23 HB2 HR
    go_wp2_with fail
    refine (sLoad s w3 hsl).mono ?_
    rintro e w4 ⟨hls, hb4⟩
    obtain ⟨ra2, va2, ma2, rc2, vc2, mc2, rfl, _⟩ := hls.1 m HMD.out
    have HM4 : Hid (Mb w4 p m ra va ma rc vc mc) := HM3.out.below hb4
    have HB4 : Hid (Below w.heap.size w w4) := HB3.out.trans (hb4.mono HB3.out.size)
    have HR4 : Hid (Mr w4 m ra va ma) := HR3.out.below hb4
    clear hls hb4 HM3 HB3 HR3
    go_upto_region 6 with fail
    obtain ⟨w5, hw5⟩ : ∃ y, y = w4.alloc (.cells #[.slice ra2 m.row.length rc2, .int .i64 m.N, .string m.S, .int .i64 m.room, .slice va2 m.vals.length vc2, .int .i64 m.ret, .bool m.over, .int .i64 m.steps, .int .i64 m.looks, .int .i64 m.hits, .slice ma2 m.memo.length mc2] 30) := ⟨_, rfl⟩
    have hb45 : Below w4.heap.size w4 w5 := by rw [hw5]; exact (Below.refl _ _).alloc (Nat.le_refl _) _
    have HM5 : Hid (Mb w5 p m ra va ma rc vc mc) := HM4.out.below hb45
    have HB5 : Hid (Below w.heap.size w w5) := HB4.out.trans (hb45.mono HB4.out.size)
    have HR5 : Hid (Mr w5 m ra va ma) := HR4.out.below hb45
    rw [← hw5]
    clear hw5 hb45 HM4 HB4 HR4
    obtain ⟨c0, c1, c2, c3, c4, c5, c6, c7, c8, c9, c10⟩ := HM5.out
    go_wp2_with fail
    clear c0 c1 c2 c3 c4 c5 c6 c7 c8 c9 c10
    refine (iSave m ra va ma rc vc mc w5 HR5.out HRD.out.sz HRD.out.ks (HT.out.below HB5.out)).mono ?_
    rintro e w6 ⟨hsv, hb6⟩
    unfold SvP at hsv
    rw [HRD.out.tx, HRD.out.sv] at hsv
    subst hsv
    have HM6 : Hid (Mb w6 p m ra va ma rc vc mc) := HM5.out.below hb6
    have HB6 : Hid (Below w.heap.size w w6) := HB5.out.trans (hb6.mono HB5.out.size)
    have HR6 : Hid (Mr w6 m ra va ma) := HR5.out.below hb6
    clear hb6 HM5 HB5 HR5
    have heq : ((bs s).toList == (bs s).toList) = true := by simp
    obtain ⟨c0, c1, c2, c3, c4, c5, c6, c7, c8, c9, c10⟩ := HM6.out
    go_wp2_with fail
    clear c0 c1 c2 c3 c4 c5 c6 c7 c8 c9 c10
    refine (iMachineOk m ra va ma rc vc mc w6 HRD.out.sz HR6.out (fun x hx => Nat.le_trans (HRD.out.ks x hx) (by unfold maxLen; omega))).mono ?_
    rintro e w7 ⟨rfl, hb7⟩
    rw [HRD.out.ok]
    have HB7 : Hid (Below w.heap.size w w7) := HB6.out.trans (hb7.mono HB6.out.size)
    clear hb7
    go_wp2
    go_ret
    exact ⟨rfl, HB7.out⟩

end Go.Proofs.YtmjmnfegaoegjaaGreatDoor.Lld1

/- A contract of a whole row, its tables and its world's shape handed on to the walk. -/
namespace Go.Proofs.YtmjmnfegaoegjaaGreatDoor.Hs0
variable {H : Type} {enc : TypeId × Value → H}

theorem andShaped {C : Checked} {os : Os} {f : FuncId} {fn : Func} {s : ChangeSpec} {apart fresh handsOn again : Bool} {X : World → Array Value → Prop}
    (hX : ∀ (w w' : World) (args : Array Value), w.heap = w'.heap → X w args → X w' args)
    (own : ownKnob C.prog.godebug = none) (started : os.Started) (noInit : C.prog.inits.idxOf? f = none) (hfn : C.prog.funcs[f]? = some fn)
    (witness : ∃ (w : World) (tape : Tape) (i : Input), w.os = os ∧ (w.forCall tape i).Shaped C.prog ∧ i.vars = [] ∧ Input.okWide C.prog (w.forCall tape i) .any w.heap.size f i ∧
      ((s.pre enc C.prog fn [] apart (w.forCall tape i).memory i.args ∧ X (w.forCall tape i).memory i.args) ∧ sizedMet enc C.prog fn (OpenSpec.ofChange s) apart (w.forCall tape i).memory i.args) ∧ ({} : Assume).holds C.prog (lone (Frame.enter C.prog f i.args .normal) [] (w.forCall tape i)))
    (walk : ∀ (W : World) (base : Nat) (args : Array Value) (ds gs : List (DataW H)) (before : List MemPlace),
      (∀ (j : Nat) t v, fn.params[j]? = some t → args[j]? = some v → Value.okWide C.prog W .any base t v) →
      DataW.Whole enc C.prog fn.params.toList s.vars apart W args.toList ds gs before → X W args → W.ShapedOpen C.prog →
      Calls C.prog f args W fun e W' => ∃ v, e = .returned v ∧ s.post enc C.prog fn apart fresh handsOn again W args v W') :
    ReturnsInHanded {} C os f .any (fun w args => (s.pre enc C.prog fn [] apart w args ∧ X w args) ∧ sizedMet enc C.prog fn (OpenSpec.ofChange s) apart w args) (s.post enc C.prog fn apart fresh handsOn again) := by
  refine returnsInHanded_of_calls own started noInit witness ?_
  intro w tape i _ hsh _ hok hpre _
  obtain ⟨_, _, _, fn', hfn', _, _, _, _, hval⟩ := hok
  obtain rfl : fn' = fn := Option.some.inj (hfn'.symm.trans hfn)
  obtain ⟨⟨⟨ds, gs, before, hw, hc⟩, hx⟩, hz⟩ := hpre
  have hw' := DataW.Whole.of_heap (w' := w.forCall tape i) (by rfl) hw
  refine (walk (w.forCall tape i) w.heap.size i.args ds gs before hval hw' (hX (w.forCall tape i).memory (w.forCall tape i) _ rfl hx) hsh).mono fun e W' ⟨v, he, hp⟩ => ?_
  subst he
  exact ChangeSpec.post_blind hp

end Go.Proofs.YtmjmnfegaoegjaaGreatDoor.Hs0

/- The variables as the row lays them, errors.errorType among them. -/
namespace Go.Proofs.YtmjmnfegaoegjaaGreatDoor.Zt1
open Go.RowKit
open Zs7 (TabE)
open Zt0 (tabz_of_laid)
set_option linter.unusedVariables false

theorem split {P : Program} {laid : List (String × DataW Unit)} {w : World} (h : laidMetH P laid w) : laidMet P (laid.filter fun x => x.2.handleName?.isNone) w ∧ handlesMet P (laid.filter fun x => x.2.handleName?.isSome) w := by
  unfold laidMetH at h
  split at h
  · rename_i e
    refine ⟨?_, by rw [e]; intro x hx; cases hx⟩
    have : (laid.filter fun x => x.2.handleName?.isNone) = laid := by
      rw [List.filter_eq_self]
      intro x hx
      cases hn : x.2.handleName? with
      | none => rfl
      | some s =>
        have : x ∈ laid.filter fun x => x.2.handleName?.isSome := List.mem_filter.2 ⟨hx, by rw [hn]; rfl⟩
        rw [e] at this
        cases this
    rw [this]
    exact h
  · rename_i hd tl e
    rw [e]
    exact h
theorem et : Tryz.prog.globalNamed "errors.errorType" = some 0 := by kernel_rfl
theorem rt : (Tryz.prog.cutTypes.find? (·.1 == "internal/reflectlite.rtype")).map (·.2) = some 170 := by kernel_rfl
theorem oneRow : ((List.range 252).filter fun t => Tryz.prog.rowNamed t [101, 114, 114, 111, 114]) = [64] := by kernel_rfl
theorem size : Tryz.prog.types.size = 252 := by kernel_rfl
theorem tabe_of_laid {W : World} {laid : List (String × DataW Unit)} (hH : laidMetH Tryz.prog laid W)
    (h1 : ("internal/strconv.uint64pow10", Rows.laid_internal_strconv_uint64pow10) ∈ laid) (h2 : ("strconv.ErrSyntax", Rows.laid_strconv_ErrSyntax) ∈ laid) (h3 : ("strconv.ErrRange", Rows.laid_strconv_ErrRange) ∈ laid) (h4 : W.ShapedOpen Tryz.prog) (h5 : ("errors.errorType", Rows.laid_errors_errorType) ∈ laid) : TabE W := by
  obtain ⟨hP, hh⟩ := split hH
  refine ⟨tabz_of_laid hP (List.mem_filter.2 ⟨h1, by kernel_rfl⟩) (List.mem_filter.2 ⟨h2, by kernel_rfl⟩) (List.mem_filter.2 ⟨h3, by kernel_rfl⟩) h4, ?_⟩
  have h6 := hh _ (List.mem_filter.2 ⟨h5, by kernel_rfl⟩)
  obtain ⟨name, u, ty, e1, e2, e3, e4, e5⟩ := h6
  have en : name = [101, 114, 114, 111, 114] := (Option.some.inj e1).symm
  subst en
  obtain rfl := Option.some.inj (rt.symm.trans e2)
  have hm : ty ∈ (List.range 252).filter fun t => Tryz.prog.rowNamed t [101, 114, 114, 111, 114] := List.mem_filter.2 ⟨List.mem_range.2 (by rw [← size]; exact e3), e4⟩
  rw [oneRow] at hm
  obtain rfl := List.mem_singleton.1 hm
  have hT : typeHandle Tryz.prog 64 = .pointer (some ⟨9, 64, none⟩) := by kernel_rfl
  rw [hT] at e5
  simpa using World.var?_cell et e5 0
end Go.Proofs.YtmjmnfegaoegjaaGreatDoor.Zt1

/- A world that lays what a row lists, a handle among it. -/
namespace Go.Proofs.YtmjmnfegaoegjaaGreatDoor.Zt2
set_option linter.unusedVariables false

noncomputable def w0h (os : Os) : World :=
  let w0 := World.holding Tryz.prog os ⟨#[], #[], []⟩
  { w0 with heap := w0.heap.modify 0 fun
      | .cells _ t frozen => .cells #[.iface 170 (.agg #[.pointer (some ⟨9, 64, none⟩)])] t frozen
      | o => o }
noncomputable def laidW (os : Os) (laid : List (String × DataW Unit)) : World := (w0h os).layVars Tryz.prog (laid.filter fun x => x.2.handleName?.isNone)
theorem laidW_os (os : Os) (laid : List (String × DataW Unit)) : (laidW os laid).os = os := (World.layVars_os _ _ _).trans rfl
theorem laidW_met {os : Os} {laid : List (String × DataW Unit)} (args : Array Value)
    (hf : (w0h os).layFits Tryz.prog (laid.filter fun x => x.2.handleName?.isNone) [] = true)
    (hi : (w0h os).layIfaces Tryz.prog (laid.filter fun x => x.2.handleName?.isNone) (laidW os laid) = true) :
    laidMet Tryz.prog (laid.filter fun x => x.2.handleName?.isNone) ((laidW os laid).forCall (fun _ _ => 0) ⟨#[], args, []⟩).memory := by
  obtain ⟨l, hl⟩ : ∃ l, l = laid.filter fun x => x.2.handleName?.isNone := ⟨_, rfl⟩
  have e1 : (l.filter fun x => (l.map (·.1)).contains x.1) = l := List.filter_eq_self.2 fun x hx => List.contains_iff_mem.2 (List.mem_map.2 ⟨x, hx, rfl⟩)
  have e2 : (l.filter fun x => !(l.map (·.1)).contains x.1) = [] := List.filter_eq_nil_iff.2 fun x hx => by rw [List.contains_iff_mem.2 (List.mem_map.2 ⟨x, hx, rfl⟩)]; simp
  rw [← hl] at hf hi ⊢
  have h : laidMet Tryz.prog l (laidW os laid) := laidMet_layVars (w0 := w0h os) (l.map (·.1)) [] (by rw [e1]; unfold laidW; rw [← hl]) (by rw [e1]; exact hf) (by rw [e1]; exact hi) (by rw [e2]; exact LaidIn.none)
  exact h.of_heap (by simp [World.memory, World.forCall, Input.heap])
theorem fits (os : Os) : (w0h os).layFits Tryz.prog (Rows.fnLoadRow.laid.filter fun x => x.2.handleName?.isNone) [] = true := by kernel_rfl
theorem ifaces (os : Os) : (w0h os).layIfaces Tryz.prog (Rows.fnLoadRow.laid.filter fun x => x.2.handleName?.isNone) (laidW os Rows.fnLoadRow.laid) = true := by kernel_rfl
theorem met (os : Os) (args : Array Value) : laidMetH Tryz.prog Rows.fnLoadRow.laid ((laidW os Rows.fnLoadRow.laid).forCall (fun _ _ => 0) ⟨#[], args, []⟩).memory :=
  laidMetH_of_parts3 (fuel := 8) (laidW_met args (fits os) (ifaces os)) (by kernel_rfl) (by kernel_rfl)
theorem shape (os : Os) (args : Array Value) : ((laidW os Rows.fnLoadRow.laid).forCall (fun _ _ => 0) ⟨#[], args, []⟩).Shaped Tryz.prog := World.shaped_of_ZipB (by kernel_rfl) (by kernel_rfl)
end Go.Proofs.YtmjmnfegaoegjaaGreatDoor.Zt2
