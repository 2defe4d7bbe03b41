/- The library's variables that reading wants; strings.Cut at a byte, strconv.Atoi, the program's readNumber. -/
import Derived.Shelf.Vars
import Derived.LaidEql
import Derived.Test.YtficonkpbohpeaaDoorZk0
import Derived.Test.YtficonkpbohpeaaDoorTk0
import Derived.Test.YtficonkpbohpeaaDoorShelf2
namespace Go.Proofs.YtficonkpbohpeaaDoor.Zt0
open Go.RowKit
open Nd0 (lt_of_cell)
open Ss0 (bs bs_size)
open Ss1 (tl tl_bs bs_tl tl_length)
open Tk0 (TabK laid_at tabk_of_laid)
open Zk0
set_option linter.unusedVariables false

structure TabZ (w : World) : Prop where
  pow : TabK w
  err : ∃ te pe, w.cell? ⟨2, 0, none⟩ = some (.iface te pe)
  rng : ∃ te pe, w.cell? ⟨3, 0, none⟩ = some (.iface te pe)
  max : ∃ m, w.cell? ⟨1, 0, none⟩ = some (.int .i64 m)
theorem TabZ.below {w w' : World} (h : TabZ w) (k : Below w.heap.size w w') : TabZ w' := by
  obtain ⟨te, pe, hc⟩ := h.err
  obtain ⟨t2, p2, hd⟩ := h.rng
  obtain ⟨m, hm⟩ := h.max
  exact ⟨h.pow.below k, ⟨te, pe, by rw [k.cell (p := ⟨_, 0, none⟩) (lt_of_cell hc)]; exact hc⟩, ⟨t2, p2, by rw [k.cell (p := ⟨_, 0, none⟩) (lt_of_cell hd)]; exact hd⟩, ⟨m, by rw [k.cell (p := ⟨_, 0, none⟩) (lt_of_cell hm)]; exact hm⟩⟩
theorem iface_of_trod {P : Program} {W : World} {fuel : Nat} {t : TypeId} {cs : List Value} {nm : String} {d : DataW Unit} {p : List MemPlace} {ms : Array (String × TypeId)} (hu : P.underlying t = some (.interface ms))
    (h : DataW.trod (fun _ => ()) P W 0 (fun _ => true) false fuel t cs = some (.iface nm d, p)) : ∃ te pe, cs = [.iface te pe] := by
  cases fuel with
  | zero => simp [DataW.trod] at h
  | succ f =>
    unfold DataW.trod at h
    rw [hu] at h
    match cs, h with
    | [], h => simp at h
    | [x], h =>
      cases x with
      | iface te pe => exact ⟨te, pe, rfl⟩
      | _ => simp at h
    | x :: y :: r, h => simp at h
theorem gErr : Tryd.prog.globalNamed "strconv.ErrSyntax" = some 2 := by kernel_rfl
theorem gtErr : (Tryd.prog.globals[2]?).map (·.type) = some 69 := by kernel_rfl
theorem gRng : Tryd.prog.globalNamed "strconv.ErrRange" = some 3 := by kernel_rfl
theorem gtRng : (Tryd.prog.globals[3]?).map (·.type) = some 69 := by kernel_rfl
theorem max_of_shaped {w : World} (h : w.ShapedOpen Tryd.prog) : ∃ m, w.cell? ⟨1, 0, none⟩ = some (.int .i64 m) :=
  cell_of_shapedOpen_int (t := 3) (zero := #[.int .i64 0]) h (of_decide_eq_true (by kernel_rfl)) (by kernel_rfl) rfl (by kernel_rfl) (by kernel_rfl) Tryd.underlying3
theorem tabz_of_laid {W : World} {laid : List (String × DataW Unit)} (h : laidMet Tryd.prog laid W)
    (h1 : ("internal/strconv.uint64pow10", Rows.laid_internal_strconv_uint64pow10) ∈ laid) (h2 : ("strconv.ErrSyntax", Rows.laid_strconv_ErrSyntax) ∈ laid) (h3 : ("strconv.ErrRange", Rows.laid_strconv_ErrRange) ∈ laid) (h4 : W.ShapedOpen Tryd.prog) : TabZ W := by
  refine ⟨tabk_of_laid h h1, ?_, ?_, max_of_shaped h4⟩
  · obtain ⟨ps, hL, _⟩ := h
    obtain ⟨g, t, cs, fuel, p, e1, e2, e3, e4⟩ := laid_at hL h2
    obtain rfl := Option.some.inj (gErr.symm.trans e1)
    obtain rfl := Option.some.inj (gtErr.symm.trans e2)
    rw [World.var?_cell e1 e3 0]
    obtain ⟨te, pe, hc⟩ := iface_of_trod Tryd.underlying69 e4
    refine ⟨te, pe, ?_⟩
    rw [← Array.getElem?_toList, hc]; rfl
  · obtain ⟨ps, hL, _⟩ := h
    obtain ⟨g, t, cs, fuel, p, e1, e2, e3, e4⟩ := laid_at hL h3
    obtain rfl := Option.some.inj (gRng.symm.trans e1)
    obtain rfl := Option.some.inj (gtRng.symm.trans e2)
    rw [World.var?_cell e1 e3 0]
    obtain ⟨te, pe, hc⟩ := iface_of_trod Tryd.underlying69 e4
    refine ⟨te, pe, ?_⟩
    rw [← Array.getElem?_toList, hc]; rfl

/-- strings.Cut at one byte. -/
theorem iCut (c : UInt8) (S : ByteArray) (w : World) (hT : TabZ w) (hs : S.size ≤ 1048576) :
    Calls Tryd.prog 44 #[.string S, .string ⟨#[c]⟩] w fun e w' => (∃ b : Bool, e = .returned (.tuple #[.string (bs (cutF c (tl S))), .string (bs (cutS c (tl S))), .bool b])) ∧ Below w.heap.size w w' := by
  obtain ⟨m, hm⟩ := hT.max
  refine (Tryd.strings_Cut S ⟨#[c]⟩ m w (by omega) hm).mono ?_
  rintro e w' ⟨rfl, n, rfl⟩
  refine ⟨⟨(Lib.cut (tl S) [c]).2.2, ?_⟩, Tc2.below_drewN (Below.refl w.heap.size w) n⟩
  rw [← cut_one, ← cut_two]
  rfl
/-- strconv.Atoi of any text. -/
theorem iAtoi (S : ByteArray) (w : World) (hT : TabZ w) (hs : S.size ≤ 1048576) :
    Calls Tryd.prog 49 #[.string S] w fun e w' => (∃ ev, e = .returned (.tuple #[.int .i64 (rnP (tl S)).1, ev]) ∧ ((rnP (tl S)).2 = true → ev = .nilIface) ∧ ((rnP (tl S)).2 = false → ∃ N, ev = .iface 91 (.pointer (some ⟨N, 0, none⟩)))) ∧ Below w.heap.size w w' := by
  unfold rnP
  cases h : Lib.atoiAll (tl S) with
  | ok v =>
    refine (Tryd.strconv_Atoi_ok S (by omega) v h w).mono ?_
    rintro e w' ⟨rfl, hh⟩
    refine ⟨⟨_, rfl, fun _ => rfl, fun e => by cases e⟩, ?_⟩
    rcases hh with rfl | ⟨t, rfl⟩
    · exact Below.refl _ _
    · exact Go.Joins.below_bytesWorld _ _ _ _ (Nat.le_refl _)
  | «syntax» =>
    obtain ⟨te, pe, hc⟩ := hT.err
    refine (Tryd.strconv_Atoi_syntax S (by omega) h _ w hc (.inr ⟨te, pe, rfl⟩)).mono ?_
    rintro e w' ⟨N, rfl, _, _, hb⟩
    exact ⟨⟨_, rfl, fun e => (by cases e), fun _ => ⟨N, rfl⟩⟩, hb⟩
  | range =>
    obtain ⟨te, pe, hc⟩ := hT.rng
    refine (Tryd.strconv_Atoi_range S (by omega) h _ w hc (.inr ⟨te, pe, rfl⟩)).mono ?_
    rintro e w' ⟨N, rfl, _, _, hb⟩
    exact ⟨⟨_, rfl, fun e => (by cases e), fun _ => ⟨N, rfl⟩⟩, hb⟩
end Go.Proofs.YtficonkpbohpeaaDoor.Zt0
