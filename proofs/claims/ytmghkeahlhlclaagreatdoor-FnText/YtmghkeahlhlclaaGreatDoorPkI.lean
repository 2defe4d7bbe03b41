/- Small texts of mine, one behind the other. -/
import Derived.Lib.Join
import Derived.Test.YtmghkeahlhlclaaGreatDoorRows
import Derived.Lib.LaidTab
import Derived.Lib.AppendIntMem
import Derived.Lib.Itoa
import Derived.OpenShut
import Derived.MakeChecks
import Derived.Shelf.Vars
import Derived.Test.YtmghkeahlhlclaaGreatDoorPkE
import Derived.Test.YtmghkeahlhlclaaGreatDoorPkA
import Derived.Test.YtmghkeahlhlclaaGreatDoorPkF
/- How the program writes a term, as plain data: what the root reaches, word by word. -/
namespace Go.Proofs.YtmghkeahlhlclaaGreatDoor.Tx5
open Nd0 Pl1 Tm0 Tm1 Tm2 Tm8 Tx0 Tx2 Tx3

/-- The words of all operators, by their numbers. -/
def opTab : List (List UInt8) := [[], [], wNot] ++ wordsL ++ [wSlice, wIf, wAll, wSome]
/-- The words ahead of a node's parts. -/
def hw (n : Nd) : List (List UInt8) :=
  opTab.getD n.op.toNat [] :: (if n.op = 17 then [dec n.k.toNat, dec n.w.toNat] else if n.op = 19 ∨ n.op = 20 then [[118] ++ dec n.k.toNat ++ [58] ++ dec n.b.toNat] else [])
/-- The text of a node as the program writes it, however long. -/
def progN (n : Nd) (ts : List (List UInt8)) : List UInt8 :=
  if n.op = 0 then [35] ++ dec n.w.toNat ++ [58] ++ dec n.k.toNat
  else if n.op = 1 then [118] ++ dec n.k.toNat ++ [58] ++ dec n.w.toNat
  else [40] ++ Lib.join (hw n ++ (parts n).map (txt ts)) [32] ++ [41]

theorem join_app (x : List UInt8) (r ys : List (List UInt8)) (sep : List UInt8) : Lib.join (x :: r ++ ys) sep = Lib.join (x :: r) sep ++ Lib.joinTail sep ys := by
  rw [List.cons_append, Lib.join_cons, Lib.join_cons]
  simp [Lib.joinTail]
theorem join_hw {n : Nd} (h2 : 2 ≤ n.op) (h20 : n.op ≤ 20) : Lib.join (hw n) [32] = headL n := by
  have hc : n.op = 17 ∨ n.op = 19 ∨ n.op = 20 ∨ n.op = 2 ∨ n.op = 18 ∨ (3 ≤ n.op ∧ n.op ≤ 16) := by omega
  unfold hw
  rw [Lib.join_cons]
  rcases hc with h | h | h | h | h | h
  · rw [if_pos h]
    unfold headL
    rw [if_neg (by omega), if_pos h, h]
    simp [Lib.joinTail, opTab, wordsL, wSlice]
  · rw [if_neg (by omega), if_pos (by omega)]
    unfold headL
    rw [if_neg (by omega), if_neg (by omega), if_neg (by omega), if_pos h, h]
    simp [Lib.joinTail, opTab, wordsL, wAll]
  · rw [if_neg (by omega), if_pos (by omega)]
    unfold headL
    rw [if_neg (by omega), if_neg (by omega), if_neg (by omega), if_neg (by omega), if_pos h, h]
    simp [Lib.joinTail, opTab, wordsL, wSome]
  · rw [if_neg (by omega), if_neg (by omega)]
    unfold headL
    rw [if_pos h, h]
    simp [Lib.joinTail, opTab, wordsL]
  · rw [if_neg (by omega), if_neg (by omega)]
    unfold headL
    rw [if_neg (by omega), if_neg (by omega), if_pos h, h]
    simp [Lib.joinTail, opTab, wordsL]
  · rw [if_neg (by omega), if_neg (by omega)]
    unfold headL
    rw [if_neg (by omega), if_neg (by omega), if_neg (by omega), if_neg (by omega), if_neg (by omega)]
    obtain ⟨j, hj⟩ : ∃ j : Nat, n.op = (j : Int) + 3 := ⟨(n.op - 3).toNat, by omega⟩
    have hj14 : j < 14 := by omega
    rw [hj, show ((j : Int) + 3).toNat = j + 3 by omega, show ((j : Int) + 3 - 3).toNat = j by omega]
    have e : opTab.getD (j + 3) [] = wordsL.getD j [] := by
      rw [List.getD_eq_getElem?_getD, List.getD_eq_getElem?_getD]
      show ((([] : List UInt8) :: [] :: wNot :: (wordsL ++ [wSlice, wIf, wAll, wSome]))[j + 3]?).getD [] = _
      rw [List.getElem?_cons_succ, List.getElem?_cons_succ, List.getElem?_cons_succ, List.getElem?_append_left (by exact hj14)]
    rw [e]
    simp [Lib.joinTail]
theorem with_all {ts : List (List UInt8)} : ∀ (ps : List Int) (h : List UInt8), (∀ p ∈ ps, txt ts p ≠ []) → withParts ts h ps = some (h ++ Lib.joinTail [32] (ps.map (txt ts))) := by
  intro ps
  induction ps with
  | nil => intro h _; simp [withParts, Lib.joinTail]
  | cons p ps ih =>
    intro h hp
    simp only [withParts]
    rw [if_neg (hp p (by simp)), ih _ (fun q hq => hp q (by simp [hq]))]
    simp [Lib.joinTail]
theorem hw_cons (n : Nd) : ∃ x r, hw n = x :: r := ⟨_, _, rfl⟩
theorem prog_show {n : Nd} {ts : List (List UInt8)} (h0 : 0 ≤ n.op) (h20 : n.op ≤ 20) (hs : n.op = 0 ∨ n.op = 1 → (progN n ts).length ≤ 4000) (hp : ∀ p ∈ parts n, txt ts p ≠ []) :
    showN n ts = if 4000 < (progN n ts).length then [] else progN n ts := by
  by_cases e0 : n.op = 0
  · rw [if_neg (by have := hs (.inl e0); omega)]
    unfold showN progN
    rw [if_pos e0, if_pos e0]
  by_cases e1 : n.op = 1
  · rw [if_neg (by have := hs (.inr e1); omega)]
    unfold showN progN
    rw [if_neg e0, if_pos e1, if_neg e0, if_pos e1]
  · unfold showN progN
    rw [if_neg e0, if_neg e1, if_neg e0, if_neg e1, with_all _ _ hp]
    obtain ⟨x, r, hx⟩ := hw_cons n
    have hj := join_hw (n := n) (by omega) h20
    rw [hx] at hj ⊢
    rw [join_app, hj]
    simp only [List.length_append, List.length_cons, List.length_nil]
    by_cases hb : 4000 < (headL n).length + (Lib.joinTail [32] ((parts n).map (txt ts))).length + 2
    · rw [if_pos hb, if_pos (by omega)]
    · rw [if_neg hb, if_neg (by omega)]
theorem prog_congr {n : Nd} {ts us : List (List UInt8)} (h : ∀ p ∈ parts n, txt ts p = txt us p) : progN n ts = progN n us := by
  unfold progN
  rw [List.map_congr_left h]
theorem prog_some (n : Nd) (ts : List (List UInt8)) : progN n ts ≠ [] := by
  unfold progN
  split
  · simp
  · split <;> simp
theorem prog_small {n : Nd} {ts : List (List UInt8)} (h : n.op = 0 ∨ n.op = 1) (hk : 0 ≤ n.k ∧ n.k ≤ 255) (hw : 0 ≤ n.w ∧ n.w ≤ 8) : (progN n ts).length ≤ 4000 := by
  have h1 := dec_len (n := n.k.toNat) (by omega)
  have h2 := dec_len (n := n.w.toNat) (by omega)
  unfold progN
  split
  · simp; omega
  · rw [if_pos (by omega)]
    simp; omega
theorem X_none {l : List Nd} (hD : Down l) {i : Nat} (hi : i < l.length) {p : Int} (hp : p ∈ parts (nth l i)) (h : X l p.toNat = []) : X l i = [] := by
  by_cases e : X l i = []
  · exact e
  · exact absurd h (part_text hD hi e hp).2.1
theorem root_none {l : List Nd} (hD : Down l) : ∀ (d i : Nat), l.length - i ≤ d → i < l.length → flag (reachL l) i = true → X l i = [] → X l (l.length - 1) = [] := by
  intro d
  induction d with
  | zero => intro i h hi; omega
  | succ d ih =>
    intro i h hi hf hx
    rcases reach_why hD hi hf with e | ⟨j, hij, hj, hfj, hm⟩
    · have : l.length - 1 = i := by omega
      rw [this]; exact hx
    · exact ih j (by omega) hj hfj (X_none hD hj hm (by rw [Int.toNat_natCast]; exact hx))
theorem show_root {l : List Nd} (h : termOk l = true) (h1 : 1 ≤ l.length) : showL l = X l (l.length - 1) := by
  unfold showL
  rw [if_pos h]
  have : ((l.length : Int) - 1) = ((l.length - 1 : Nat) : Int) := by omega
  rw [this]
  rfl

end Go.Proofs.YtmghkeahlhlclaaGreatDoor.Tx5

/- What the program's and the library's tables hold, as the walks read it. -/
namespace Go.Proofs.YtmghkeahlhlclaaGreatDoor.Tb0
open Go.RowKit
open Nd0 Tx0 Tx5 Ss0
set_option linter.unusedVariables false

/-- The tables are laid. -/
structure Tabs (w : World) : Prop where
  pow : Lib.TabIs Tryz.prog w "internal/strconv.uint64pow10" .u64 Lib.pow10Tab
  ops : ∀ i, i < 21 → w.cell? ⟨0, i, none⟩ = some (.string (bs (opTab.getD i [])))
theorem Tabs.below {w w' : World} (h : Tabs w) (k : Below w.heap.size w w') : Tabs w' :=
  ⟨Lib.tabBelow_of_tabIs h.pow w' k, fun i hi => by rw [k.cell (p := ⟨_, i, none⟩) (lt_of_cell (h.ops i hi))]; exact h.ops i hi⟩

theorem laid_at {P : Program} {W : World} : ∀ {laid : List (String × DataW Unit)} {ps : List MemPlace}, DataW.LaidVars P W laid ps → ∀ {n : String} {d : DataW Unit}, (n, d) ∈ laid →
    ∃ g t cs fuel p, P.globalNamed n = some g ∧ (P.globals[g]?).map (·.type) = some t ∧ W.var? P n = some cs ∧ DataW.trod (fun _ => ()) P W 0 (fun _ => true) false fuel t cs.toList = some (d, p) := by
  intro laid
  induction laid with
  | nil => intro ps _ n d h; cases h
  | cons x r ih =>
    intro ps h n d hm
    obtain ⟨n', d'⟩ := x
    obtain ⟨g, t, cs, fuel, p, q, h1, h2, h3, h4, h5, _⟩ := h
    rcases List.mem_cons.1 hm with e | e
    · cases e; exact ⟨g, t, cs, fuel, p, h1, h2, h3, h4⟩
    · exact ih h5 e
theorem gPow : Tryz.prog.globalNamed "internal/strconv.uint64pow10" = some 1 := by kernel_rfl
theorem gtPow : (Tryz.prog.globals[1]?).map (·.type) = some 141 := by kernel_rfl
theorem gOps : Tryz.prog.globalNamed "loop.example/g00116/impl.opWords" = some 0 := by kernel_rfl
theorem gtOps : (Tryz.prog.globals[0]?).map (·.type) = some 75 := by kernel_rfl
theorem tabs_of_laid {W : World} {laid : List (String × DataW Unit)} (h : laidMet Tryz.prog laid W)
    (h1 : ("internal/strconv.uint64pow10", Rows.laid_internal_strconv_uint64pow10) ∈ laid) (h2 : ("loop.example/g00116/impl.opWords", Rows.laid_loop_example_g00116_impl_opWords) ∈ laid) : Tabs W := by
  obtain ⟨ps, hL, _⟩ := h
  refine ⟨?_, ?_⟩
  · obtain ⟨g, t, cs, fuel, p, e1, e2, e3, e4⟩ := laid_at hL h1
    obtain rfl := Option.some.inj (gPow.symm.trans e1)
    obtain rfl := Option.some.inj (gtPow.symm.trans e2)
    unfold Lib.TabIs
    rw [e3, ← Lib.cells_of_tab (k := .u64) (zs := Lib.pow10Tab) Tryz.underlying141 Tryz.underlying130 (by kernel_rfl) (by kernel_rfl) e4]
  · obtain ⟨g, t, cs, fuel, p, e1, e2, e3, e4⟩ := laid_at hL h2
    obtain rfl := Option.some.inj (gOps.symm.trans e1)
    obtain rfl := Option.some.inj (gtOps.symm.trans e2)
    intro i hi
    rw [World.var?_cell e1 e3 i]
    obtain ⟨xs, m, rfl, hx, hlen, hn, hel⟩ := DataW.trod_array Tryz.underlying75 e4
    have hc1 : Tryz.prog.cellsOf 9 = 1 := by kernel_rfl
    have h0 := hel i hi
    rw [hc1, Nat.mul_one] at h0
    have hxi : xs[i]? = some xs[i] := List.getElem?_eq_getElem (by omega)
    rw [hxi] at h0
    obtain ⟨s, hs, hy, _⟩ := DataW.trod_string Tryz.underlying9 h0
    have hd : xs.map (·.1) = opTab.map (fun x => (DataW.lit (.string x) : DataW Unit)) := by
      have := congrArg Prod.fst hx
      simpa [Rows.laid_loop_example_g00116_impl_opWords, opTab, wordsL, wNot, wSlice, wIf, wAll, wSome] using this.symm
    have hdi := congrArg (fun z => z[i]?) hd
    simp only [List.getElem?_map, hxi, Option.map_some] at hdi
    rw [hy] at hdi
    have hop : opTab[i]? = some (opTab.getD i []) := by
      rw [List.getD_eq_getElem?_getD, List.getElem?_eq_getElem (show i < opTab.length from hi)]; rfl
    rw [hop] at hdi
    simp only [Option.map_some, Option.some.injEq, DataW.lit.injEq, Lit.string.injEq] at hdi
    rw [← hdi]
    have hci : cs.toList[i]? = some (.string s) := by
      have := congrArg (fun z => z[0]?) hs
      simpa [List.getElem?_take, List.getElem?_drop] using this
    rw [Array.getElem?_toList] at hci
    rw [hci, bs_of]
theorem itoa_dec (n : Nat) : Lib.itoa (n : Int) = dec n := by
  unfold Lib.itoa
  rw [if_neg (by omega), Int.toNat_natCast]
  induction n using Nat.strongRecOn with
  | ind n ih =>
    rw [Lib.decDigits]
    unfold dec
    by_cases h : n < 10
    · rw [dif_pos h]
      by_cases h0 : n = 0
      · subst h0; rfl
      · rw [if_neg h0, digs_pos (by omega), show n / 10 = 0 by omega, digs_zero, show n % 10 = n by omega]; rfl
    · rw [dif_neg h, if_neg (by omega), digs_pos (by omega), ih (n / 10) (by omega)]
      unfold dec
      rw [if_neg (by omega)]

end Go.Proofs.YtmghkeahlhlclaaGreatDoor.Tb0

/- The tables that reading wants. -/
namespace Go.Proofs.YtmghkeahlhlclaaGreatDoor.Tb1
open Go.RowKit
open Nd0 Tx0 Ss0 Tb0
set_option linter.unusedVariables false

/-- The tables that reading wants. -/
structure TabR (w : World) : Prop where
  tabs : Tabs w
  err : ∃ te pe, w.cell? ⟨5, 0, none⟩ = some (.iface te pe)
  max : ∃ m, w.cell? ⟨2, 0, none⟩ = some (.int .i64 m)
theorem TabR.below {w w' : World} (h : TabR w) (k : Below w.heap.size w w') : TabR w' := by
  obtain ⟨te, pe, hc⟩ := h.err
  obtain ⟨m, hm⟩ := h.max
  exact ⟨h.tabs.below k, ⟨te, pe, by rw [k.cell (p := ⟨_, 0, none⟩) (lt_of_cell hc)]; exact hc⟩, ⟨m, by rw [k.cell (p := ⟨_, 0, none⟩) (lt_of_cell hm)]; exact hm⟩⟩

theorem iface_of_trod {P : Program} {W : World} {fuel : Nat} {t : TypeId} {cs : List Value} {nm : String} {d : DataW Unit} {p : List MemPlace} {ms : Array (String × TypeId)} (hu : P.underlying t = some (.interface ms))
    (h : DataW.trod (fun _ => ()) P W 0 (fun _ => true) false fuel t cs = some (.iface nm d, p)) : ∃ te pe, cs = [.iface te pe] := by
  cases fuel with
  | zero => simp [DataW.trod] at h
  | succ f =>
    unfold DataW.trod at h
    rw [hu] at h
    match cs, h with
    | [], h => simp at h
    | [x], h =>
      cases x with
      | iface te pe => exact ⟨te, pe, rfl⟩
      | _ => simp at h
    | x :: y :: r, h => simp at h
theorem gErr : Tryz.prog.globalNamed "strconv.ErrSyntax" = some 5 := by kernel_rfl
theorem gtErr : (Tryz.prog.globals[5]?).map (·.type) = some 106 := by kernel_rfl
theorem max_of_shaped {w : World} (h : w.ShapedOpen Tryz.prog) : ∃ m, w.cell? ⟨2, 0, none⟩ = some (.int .i64 m) :=
  cell_of_shapedOpen_int (t := 3) (zero := #[.int .i64 0]) h (of_decide_eq_true (by kernel_rfl)) (by kernel_rfl) rfl (by kernel_rfl) (by kernel_rfl) Tryz.underlying3
theorem tabr_of_laid {W : World} {laid : List (String × DataW Unit)} (h : laidMet Tryz.prog laid W)
    (h1 : ("internal/strconv.uint64pow10", Rows.laid_internal_strconv_uint64pow10) ∈ laid) (h2 : ("loop.example/g00116/impl.opWords", Rows.laid_loop_example_g00116_impl_opWords) ∈ laid) (h3 : ("strconv.ErrSyntax", Rows.laid_strconv_ErrSyntax) ∈ laid) (h4 : W.ShapedOpen Tryz.prog) : TabR W := by
  refine ⟨tabs_of_laid h h1 h2, ?_, max_of_shaped h4⟩
  obtain ⟨ps, hL, _⟩ := h
  obtain ⟨g, t, cs, fuel, p, e1, e2, e3, e4⟩ := laid_at hL h3
  obtain rfl := Option.some.inj (gErr.symm.trans e1)
  obtain rfl := Option.some.inj (gtErr.symm.trans e2)
  rw [World.var?_cell e1 e3 0]
  have hx := iface_of_trod Tryz.underlying106 e4
  obtain ⟨te, pe, hc⟩ := hx
  refine ⟨te, pe, ?_⟩
  rw [← Array.getElem?_toList, hc]; rfl

end Go.Proofs.YtmghkeahlhlclaaGreatDoor.Tb1
