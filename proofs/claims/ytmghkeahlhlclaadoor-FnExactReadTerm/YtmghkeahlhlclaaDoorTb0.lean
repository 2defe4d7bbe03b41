/- What the program's and the library's tables hold, as the walks read it. -/
import Derived.Test.YtmghkeahlhlclaaDoorRows
import Derived.Lib.LaidTab
import Derived.Lib.AppendIntMem
import Derived.Lib.Itoa
import Derived.OpenShut
import Derived.MakeChecks
import Derived.Test.YtmghkeahlhlclaaDoorPkF
import Derived.Test.YtmghkeahlhlclaaDoorTx5
namespace Go.Proofs.YtmghkeahlhlclaaDoor.Tb0
open Go.RowKit
open Nd0 Tx0 Tx5 Ss0
set_option linter.unusedVariables false

/-- The tables are laid. -/
structure Tabs (w : World) : Prop where
  pow : Lib.TabIs Tryd.prog w "internal/strconv.uint64pow10" .u64 Lib.pow10Tab
  ops : ∀ i, i < 21 → w.cell? ⟨0, i, none⟩ = some (.string (bs (opTab.getD i [])))
theorem Tabs.below {w w' : World} (h : Tabs w) (k : Below w.heap.size w w') : Tabs w' :=
  ⟨Lib.tabBelow_of_tabIs h.pow w' k, fun i hi => by rw [k.cell (p := ⟨_, i, none⟩) (lt_of_cell (h.ops i hi))]; exact h.ops i hi⟩

theorem laid_at {P : Program} {W : World} : ∀ {laid : List (String × DataW Unit)} {ps : List MemPlace}, DataW.LaidVars P W laid ps → ∀ {n : String} {d : DataW Unit}, (n, d) ∈ laid →
    ∃ g t cs fuel p, P.globalNamed n = some g ∧ (P.globals[g]?).map (·.type) = some t ∧ W.var? P n = some cs ∧ DataW.trod (fun _ => ()) P W 0 (fun _ => true) false fuel t cs.toList = some (d, p) := by
  intro laid
  induction laid with
  | nil => intro ps _ n d h; cases h
  | cons x r ih =>
    intro ps h n d hm
    obtain ⟨n', d'⟩ := x
    obtain ⟨g, t, cs, fuel, p, q, h1, h2, h3, h4, h5, _⟩ := h
    rcases List.mem_cons.1 hm with e | e
    · cases e; exact ⟨g, t, cs, fuel, p, h1, h2, h3, h4⟩
    · exact ih h5 e
theorem gPow : Tryd.prog.globalNamed "internal/strconv.uint64pow10" = some 1 := by kernel_rfl
theorem gtPow : (Tryd.prog.globals[1]?).map (·.type) = some 117 := by kernel_rfl
theorem gOps : Tryd.prog.globalNamed "loop.example/g00116/impl.opWords" = some 0 := by kernel_rfl
theorem gtOps : (Tryd.prog.globals[0]?).map (·.type) = some 66 := by kernel_rfl
theorem tabs_of_laid {W : World} {laid : List (String × DataW Unit)} (h : laidMet Tryd.prog laid W)
    (h1 : ("internal/strconv.uint64pow10", Rows.laid_internal_strconv_uint64pow10) ∈ laid) (h2 : ("loop.example/g00116/impl.opWords", Rows.laid_loop_example_g00116_impl_opWords) ∈ laid) : Tabs W := by
  obtain ⟨ps, hL, _⟩ := h
  refine ⟨?_, ?_⟩
  · obtain ⟨g, t, cs, fuel, p, e1, e2, e3, e4⟩ := laid_at hL h1
    obtain rfl := Option.some.inj (gPow.symm.trans e1)
    obtain rfl := Option.some.inj (gtPow.symm.trans e2)
    unfold Lib.TabIs
    rw [e3, ← Lib.cells_of_tab (k := .u64) (zs := Lib.pow10Tab) Tryd.underlying117 Tryd.underlying107 (by kernel_rfl) (by kernel_rfl) e4]
  · obtain ⟨g, t, cs, fuel, p, e1, e2, e3, e4⟩ := laid_at hL h2
    obtain rfl := Option.some.inj (gOps.symm.trans e1)
    obtain rfl := Option.some.inj (gtOps.symm.trans e2)
    intro i hi
    rw [World.var?_cell e1 e3 i]
    obtain ⟨xs, m, rfl, hx, hlen, hn, hel⟩ := DataW.trod_array Tryd.underlying66 e4
    have hc1 : Tryd.prog.cellsOf 9 = 1 := by kernel_rfl
    have h0 := hel i hi
    rw [hc1, Nat.mul_one] at h0
    have hxi : xs[i]? = some xs[i] := List.getElem?_eq_getElem (by omega)
    rw [hxi] at h0
    obtain ⟨s, hs, hy, _⟩ := DataW.trod_string Tryd.underlying9 h0
    have hd : xs.map (·.1) = opTab.map (fun x => (DataW.lit (.string x) : DataW Unit)) := by
      have := congrArg Prod.fst hx
      simpa [Rows.laid_loop_example_g00116_impl_opWords, opTab, wordsL, wNot, wSlice, wIf, wAll, wSome] using this.symm
    have hdi := congrArg (fun z => z[i]?) hd
    simp only [List.getElem?_map, hxi, Option.map_some] at hdi
    rw [hy] at hdi
    have hop : opTab[i]? = some (opTab.getD i []) := by
      rw [List.getD_eq_getElem?_getD, List.getElem?_eq_getElem (show i < opTab.length from hi)]; rfl
    rw [hop] at hdi
    simp only [Option.map_some, Option.some.injEq, DataW.lit.injEq, Lit.string.injEq] at hdi
    rw [← hdi]
    have hci : cs.toList[i]? = some (.string s) := by
      have := congrArg (fun z => z[0]?) hs
      simpa [List.getElem?_take, List.getElem?_drop] using this
    rw [Array.getElem?_toList] at hci
    rw [hci, bs_of]
theorem itoa_dec (n : Nat) : Lib.itoa (n : Int) = dec n := by
  unfold Lib.itoa
  rw [if_neg (by omega), Int.toNat_natCast]
  induction n using Nat.strongRecOn with
  | ind n ih =>
    rw [Lib.decDigits]
    unfold dec
    by_cases h : n < 10
    · rw [dif_pos h]
      by_cases h0 : n = 0
      · subst h0; rfl
      · rw [if_neg h0, digs_pos (by omega), show n / 10 = 0 by omega, digs_zero, show n % 10 = n by omega]; rfl
    · rw [dif_neg h, if_neg (by omega), digs_pos (by omega), ih (n / 10) (by omega)]
      unfold dec
      rw [if_neg (by omega)]

end Go.Proofs.YtmghkeahlhlclaaDoor.Tb0
