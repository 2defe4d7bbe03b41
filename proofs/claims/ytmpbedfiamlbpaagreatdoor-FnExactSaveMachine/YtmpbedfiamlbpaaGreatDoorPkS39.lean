/- Small texts of mine, one behind the other. -/
import Derived.LaidHandle
import Derived.Stop.Joined
import Derived.Test.YtmpbedfiamlbpaaGreatDoorZs6
/- The program's SaveMachine. -/
namespace Go.Proofs.YtmpbedfiamlbpaaGreatDoor.Zs7
open Go.RowKit
open Nd0 (Kept lt_of_cell)
open Ss0 (bs)
open Mm0 (Mc Mb Mr Mok mval)
open Tk0 (TabK)
open Zs0 Zs5 Zs6 Zt0
set_option linter.unusedVariables false

/-- The variables that errors.As wants besides. -/
structure TabE (w : World) : Prop where
  tab : TabZ w
  ety : w.cell? ⟨0, 0, none⟩ = some (.iface 193 (.agg #[.pointer (some ⟨9, 74, none⟩)]))
theorem TabE.below {w w' : World} (h : TabE w) (k : Below w.heap.size w w') : TabE w' :=
  ⟨h.tab.below k, by rw [k.cell (p := ⟨_, 0, none⟩) (lt_of_cell h.ety)]; exact h.ety⟩
/-- What SaveMachine comes to. -/
def SvP (m : Mc) (e : Ending) : Prop := e = .returned (.tuple #[.string (svS m), .bool (svB m)])
theorem SvP.yes {m : Mc} (h : svB m = true) {S : ByteArray} (hS : S = bs (savT m)) : SvP m (.returned (.tuple #[.string S, .bool true])) := by
  unfold SvP svS
  rw [h, if_pos rfl, hS]
theorem SvP.no {m : Mc} (h : svB m = false) : SvP m (.returned (.tuple #[.string ⟨#[]⟩, .bool false])) := by
  unfold SvP svS
  rw [h, if_neg (by simp)]

set_option maxRecDepth 100000 in
set_option maxHeartbeats 4000000 in
theorem iSave (m : Mc) (ra va ma : Option Addr) (rc vc mc : Nat) (w : World) (hR : Mr w m ra va ma) (hS : m.S.size ≤ 1048576) (hK : ∀ x ∈ m.memo, x.k.size ≤ 1048576) (hT : TabE w) :
    Calls Tryz.prog 13 #[mval m ra va ma rc vc mc] w fun e w' => SvP m e ∧ Below w.heap.size w w' := by
  obtain ⟨X0, hX0⟩ : ∃ X, X = w.alloc (.cells #[.slice ra m.row.length rc, .int .i64 m.N, .string m.S, .int .i64 m.room, .slice va m.vals.length vc, .int .i64 m.ret, .bool m.over, .int .i64 m.steps, .int .i64 m.looks, .int .i64 m.hits, .slice ma m.memo.length mc] 30) := ⟨_, rfl⟩
  have b0 : Below w.heap.size w X0 := by rw [hX0]; exact (Below.refl _ _).alloc (Nat.le_refl _) _
  have HB0 : Hid (Below w.heap.size w X0) := b0
  have HM0 : Hid (Mb X0 w.heap.size m ra va ma rc vc mc) := by rw [hX0]; exact Mb.made _ _ _ _ _ _ _ _ _
  have hE : w.alloc (.cells #[.slice ra m.row.length rc, .int .i64 m.N, .string m.S, .int .i64 m.room, .slice va m.vals.length vc, .int .i64 m.ret, .bool m.over, .int .i64 m.steps, .int .i64 m.looks, .int .i64 m.hits, .slice ma m.memo.length mc] 30) = X0 := hX0.symm
  have HT : Hid (TabE w) := hT
  have HST : Hid _ := iSaved m ra va ma rc vc mc X0 (hR.below b0) hS hK (hT.tab.below b0)
  clear hX0 b0 hT hR hS hK
  go_enter Tryz.func13, Tryz.ntmps13
  go_upto_region 1 with fail
  clear hE
  obtain ⟨m0, m1, m2, m3, m4, m5, m6, m7, m8, m9, m10⟩ := HM0.out
  go_wp2_with fail
  clear m0 m1 m2 m3 m4 m5 m6 m7 m8 m9 m10
  refine Calls.mono HST.out ?_
  rintro e w1 ⟨hst, hb⟩
  have HB1 : Hid (Below w.heap.size w w1) := HB0.out.trans (hb.mono HB0.out.size)
  clear hb
  rcases hst with ⟨hv, rfl⟩ | ⟨hv, x, rfl⟩
  · have HV : Hid (svB m = true) := hv
    obtain ⟨R, hR⟩ : ∃ R, R = bs (savT m) := ⟨_, rfl⟩
    have HR : Hid (R = bs (savT m)) := hR
    rw [← hR]
    clear hR hv
    go_wp2_with fail
    refine (iRefusal0 _).mono ?_
    rintro e w2 ⟨rfl, hb⟩
    have HB2 : Hid (Below w.heap.size w w2) := HB1.out.trans (hb.mono HB1.out.size)
    clear hb
    go_wp2
    go_ret2
    exact ⟨SvP.yes HV.out HR.out, HB2.out⟩
  · have HV : Hid (svB m = false) := hv
    clear hv
    go_wp2_with fail
    refine (iRefusal x _ (HT.out.below HB1.out).ety).mono ?_
    rintro e w2 ⟨rfl, hb⟩
    have HB2 : Hid (Below w.heap.size w w2) := HB1.out.trans (hb.mono HB1.out.size)
    clear hb
    go_wp2
    go_ret2
    exact ⟨SvP.no HV.out, HB2.out⟩
end Go.Proofs.YtmpbedfiamlbpaaGreatDoor.Zs7

/- The variables as the row lays them, errors.errorType among them. -/
namespace Go.Proofs.YtmpbedfiamlbpaaGreatDoor.Zt1
open Go.RowKit
open Zs7 (TabE)
open Zt0 (tabz_of_laid)
set_option linter.unusedVariables false

theorem split {P : Program} {laid : List (String × DataW Unit)} {w : World} (h : laidMetH P laid w) : laidMet P (laid.filter fun x => x.2.handleName?.isNone) w ∧ handlesMet P (laid.filter fun x => x.2.handleName?.isSome) w := by
  unfold laidMetH at h
  split at h
  · rename_i e
    refine ⟨?_, by rw [e]; intro x hx; cases hx⟩
    have : (laid.filter fun x => x.2.handleName?.isNone) = laid := by
      rw [List.filter_eq_self]
      intro x hx
      cases hn : x.2.handleName? with
      | none => rfl
      | some s =>
        have : x ∈ laid.filter fun x => x.2.handleName?.isSome := List.mem_filter.2 ⟨hx, by rw [hn]; rfl⟩
        rw [e] at this
        cases this
    rw [this]
    exact h
  · rename_i hd tl e
    rw [e]
    exact h
theorem et : Tryz.prog.globalNamed "errors.errorType" = some 0 := by kernel_rfl
theorem rt : (Tryz.prog.cutTypes.find? (·.1 == "internal/reflectlite.rtype")).map (·.2) = some 193 := by kernel_rfl
theorem oneRow : ((List.range 275).filter fun t => Tryz.prog.rowNamed t [101, 114, 114, 111, 114]) = [74] := by kernel_rfl
theorem size : Tryz.prog.types.size = 275 := by kernel_rfl
theorem tabe_of_laid {W : World} {laid : List (String × DataW Unit)} (hH : laidMetH Tryz.prog laid W)
    (h1 : ("internal/strconv.uint64pow10", Rows.laid_internal_strconv_uint64pow10) ∈ laid) (h2 : ("strconv.ErrSyntax", Rows.laid_strconv_ErrSyntax) ∈ laid) (h3 : ("strconv.ErrRange", Rows.laid_strconv_ErrRange) ∈ laid) (h4 : W.ShapedOpen Tryz.prog) (h5 : ("errors.errorType", Rows.laid_errors_errorType) ∈ laid) : TabE W := by
  obtain ⟨hP, hh⟩ := split hH
  refine ⟨tabz_of_laid hP (List.mem_filter.2 ⟨h1, by kernel_rfl⟩) (List.mem_filter.2 ⟨h2, by kernel_rfl⟩) (List.mem_filter.2 ⟨h3, by kernel_rfl⟩) h4, ?_⟩
  have h6 := hh _ (List.mem_filter.2 ⟨h5, by kernel_rfl⟩)
  obtain ⟨name, u, ty, e1, e2, e3, e4, e5⟩ := h6
  have en : name = [101, 114, 114, 111, 114] := (Option.some.inj e1).symm
  subst en
  obtain rfl := Option.some.inj (rt.symm.trans e2)
  have hm : ty ∈ (List.range 275).filter fun t => Tryz.prog.rowNamed t [101, 114, 114, 111, 114] := List.mem_filter.2 ⟨List.mem_range.2 (by rw [← size]; exact e3), e4⟩
  rw [oneRow] at hm
  obtain rfl := List.mem_singleton.1 hm
  have hT : typeHandle Tryz.prog 74 = .pointer (some ⟨9, 74, none⟩) := by kernel_rfl
  rw [hT] at e5
  simpa using World.var?_cell et e5 0
end Go.Proofs.YtmpbedfiamlbpaaGreatDoor.Zt1
