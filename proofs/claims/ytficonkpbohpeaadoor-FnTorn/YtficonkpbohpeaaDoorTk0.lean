/- The library's table of powers of ten, as the walks read it; TableKey of both sides. -/
import Derived.Test.YtficonkpbohpeaaDoorRows
import Derived.Lib.LaidTab
import Derived.Lib.AppendIntMem
import Derived.Lib.Itoa
import Derived.OpenShut
import Derived.MakeChecks
import Derived.Test.YtficonkpbohpeaaDoorPkT9
import Derived.Test.YtficonkpbohpeaaDoorPkT16
namespace Go.Proofs.YtficonkpbohpeaaDoor.Tk0
open Go.RowKit
open Ta0 Ta1 Ta2 Tc2 Tc5 Td1 Te1 Tx0
open Ss0 (bs bs_size bs_app ret_str sDec)
open Ss1 (tl tl_bs bs_tl)
set_option linter.unusedVariables false

/-- The table is laid. -/
structure TabK (w : World) : Prop where
  pow : Lib.TabIs Tryd.prog w "internal/strconv.uint64pow10" .u64 Lib.pow10Tab
theorem TabK.below {w w' : World} (h : TabK w) (k : Below w.heap.size w w') : TabK w' := ⟨Lib.tabBelow_of_tabIs h.pow w' k⟩
theorem laid_at {P : Program} {W : World} : ∀ {laid : List (String × DataW Unit)} {ps : List MemPlace}, DataW.LaidVars P W laid ps → ∀ {n : String} {d : DataW Unit}, (n, d) ∈ laid →
    ∃ g t cs fuel p, P.globalNamed n = some g ∧ (P.globals[g]?).map (·.type) = some t ∧ W.var? P n = some cs ∧ DataW.trod (fun _ => ()) P W 0 (fun _ => true) false fuel t cs.toList = some (d, p) := by
  intro laid
  induction laid with
  | nil => intro ps _ n d h; cases h
  | cons x r ih =>
    intro ps h n d hm
    obtain ⟨n', d'⟩ := x
    obtain ⟨g, t, cs, fuel, p, q, h1, h2, h3, h4, h5, _⟩ := h
    rcases List.mem_cons.1 hm with e | e
    · cases e; exact ⟨g, t, cs, fuel, p, h1, h2, h3, h4⟩
    · exact ih h5 e
theorem gPow : Tryd.prog.globalNamed "internal/strconv.uint64pow10" = some 0 := by kernel_rfl
theorem gtPow : (Tryd.prog.globals[0]?).map (·.type) = some 82 := by kernel_rfl
theorem tabk_of_laid {W : World} {laid : List (String × DataW Unit)} (h : laidMet Tryd.prog laid W)
    (h1 : ("internal/strconv.uint64pow10", Rows.laid_internal_strconv_uint64pow10) ∈ laid) : TabK W := by
  obtain ⟨ps, hL, _⟩ := h
  refine ⟨?_⟩
  obtain ⟨g, t, cs, fuel, p, e1, e2, e3, e4⟩ := laid_at hL h1
  obtain rfl := Option.some.inj (gPow.symm.trans e1)
  obtain rfl := Option.some.inj (gtPow.symm.trans e2)
  unfold Lib.TabIs
  rw [e3, ← Lib.cells_of_tab (k := .u64) (zs := Lib.pow10Tab) Tryd.underlying82 Tryd.underlying73 (by kernel_rfl) (by kernel_rfl) e4]
theorem itoa_dec (n : Nat) : Lib.itoa (n : Int) = dec n := by
  unfold Lib.itoa
  rw [if_neg (by omega), Int.toNat_natCast]
  induction n using Nat.strongRecOn with
  | ind n ih =>
    rw [Lib.decDigits]
    unfold dec
    by_cases h : n < 10
    · rw [dif_pos h]
      by_cases h0 : n = 0
      · subst h0; rfl
      · rw [if_neg h0, digs_pos (by omega), show n / 10 = 0 by omega, digs_zero, show n % 10 = n by omega]; rfl
    · rw [dif_neg h, if_neg (by omega), digs_pos (by omega), ih (n / 10) (by omega)]
      unfold dec
      rw [if_neg (by omega)]
theorem itoa (n : Nat) (hn : n < 1000000000) (w : World) (hT : TabK w) :
    Calls Tryd.prog 32 #[.int .i64 (n : Int)] w fun e w' => e = .returned (.string (bs (dec n))) ∧ Below w.heap.size w w' := by
  refine (Tryd.strconv_Itoa (n : Int) (by omega) (by omega) w hT.pow).mono ?_
  rintro e w' ⟨rfl, k, os, rfl⟩
  exact ⟨by rw [itoa_dec]; rfl, Lib.below_grow _ _ (Nat.le_refl _) k os⟩

/-- The key of a right table. -/
def keyL (n : Nat) (l : List UInt8) : List UInt8 := dec n ++ (58 :: l)
theorem key_text (n : Nat) (l : List UInt8) : bs (dec n) ++ ⟨#[58]⟩ ++ bs l = bs (keyL n l) := by
  rw [show (⟨#[58]⟩ : ByteArray) = bs [58] from rfl, bs_app, bs_app]
  unfold keyL
  congr 1
  simp

theorem dec_short {n : Nat} (h : n ≤ 12) : (bs (dec n)).size ≤ 2 := by
  have : ∀ k : Fin 13, (dec k.val).length ≤ 2 := by decide +kernel
  rw [bs_size]
  exact this ⟨n, by omega⟩

end Go.Proofs.YtficonkpbohpeaaDoor.Tk0
