/- The tables that reading wants. -/
import Derived.Shelf.Vars
import Derived.Test.YtmghkeahlhlclaaDoorTb0
namespace Go.Proofs.YtmghkeahlhlclaaDoor.Tb1
open Go.RowKit
open Nd0 Tx0 Ss0 Tb0
set_option linter.unusedVariables false

/-- The tables that reading wants. -/
structure TabR (w : World) : Prop where
  tabs : Tabs w
  err : ∃ te pe, w.cell? ⟨5, 0, none⟩ = some (.iface te pe)
  max : ∃ m, w.cell? ⟨2, 0, none⟩ = some (.int .i64 m)
theorem TabR.below {w w' : World} (h : TabR w) (k : Below w.heap.size w w') : TabR w' := by
  obtain ⟨te, pe, hc⟩ := h.err
  obtain ⟨m, hm⟩ := h.max
  exact ⟨h.tabs.below k, ⟨te, pe, by rw [k.cell (p := ⟨_, 0, none⟩) (lt_of_cell hc)]; exact hc⟩, ⟨m, by rw [k.cell (p := ⟨_, 0, none⟩) (lt_of_cell hm)]; exact hm⟩⟩

theorem iface_of_trod {P : Program} {W : World} {fuel : Nat} {t : TypeId} {cs : List Value} {nm : String} {d : DataW Unit} {p : List MemPlace} {ms : Array (String × TypeId)} (hu : P.underlying t = some (.interface ms))
    (h : DataW.trod (fun _ => ()) P W 0 (fun _ => true) false fuel t cs = some (.iface nm d, p)) : ∃ te pe, cs = [.iface te pe] := by
  cases fuel with
  | zero => simp [DataW.trod] at h
  | succ f =>
    unfold DataW.trod at h
    rw [hu] at h
    match cs, h with
    | [], h => simp at h
    | [x], h =>
      cases x with
      | iface te pe => exact ⟨te, pe, rfl⟩
      | _ => simp at h
    | x :: y :: r, h => simp at h
theorem gErr : Tryd.prog.globalNamed "strconv.ErrSyntax" = some 5 := by kernel_rfl
theorem gtErr : (Tryd.prog.globals[5]?).map (·.type) = some 91 := by kernel_rfl
theorem max_of_shaped {w : World} (h : w.ShapedOpen Tryd.prog) : ∃ m, w.cell? ⟨2, 0, none⟩ = some (.int .i64 m) :=
  cell_of_shapedOpen_int (t := 3) (zero := #[.int .i64 0]) h (of_decide_eq_true (by kernel_rfl)) (by kernel_rfl) rfl (by kernel_rfl) (by kernel_rfl) Tryd.underlying3
theorem tabr_of_laid {W : World} {laid : List (String × DataW Unit)} (h : laidMet Tryd.prog laid W)
    (h1 : ("internal/strconv.uint64pow10", Rows.laid_internal_strconv_uint64pow10) ∈ laid) (h2 : ("loop.example/g00116/impl.opWords", Rows.laid_loop_example_g00116_impl_opWords) ∈ laid) (h3 : ("strconv.ErrSyntax", Rows.laid_strconv_ErrSyntax) ∈ laid) (h4 : W.ShapedOpen Tryd.prog) : TabR W := by
  refine ⟨tabs_of_laid h h1 h2, ?_, max_of_shaped h4⟩
  obtain ⟨ps, hL, _⟩ := h
  obtain ⟨g, t, cs, fuel, p, e1, e2, e3, e4⟩ := laid_at hL h3
  obtain rfl := Option.some.inj (gErr.symm.trans e1)
  obtain rfl := Option.some.inj (gtErr.symm.trans e2)
  rw [World.var?_cell e1 e3 0]
  have hx := iface_of_trod Tryd.underlying91 e4
  obtain ⟨te, pe, hc⟩ := hx
  refine ⟨te, pe, ?_⟩
  rw [← Array.getElem?_toList, hc]; rfl

end Go.Proofs.YtmghkeahlhlclaaDoor.Tb1
