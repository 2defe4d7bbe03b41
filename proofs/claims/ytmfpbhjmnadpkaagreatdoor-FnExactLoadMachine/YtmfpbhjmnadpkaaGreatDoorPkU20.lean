/- Small texts of mine, one behind the other. -/
import Derived.Shelf.Vars
import Derived.LaidEql
import Derived.Deep.RegionWith
import Derived.Test.YtmfpbhjmnadpkaaGreatDoorRows
import Derived.Deep.AppendLies
import Derived.OwnWalk
import Derived.Deep.RegionHeld
import Derived.Test.YtmfpbhjmnadpkaaGreatDoorPkU12
import Derived.Test.YtmfpbhjmnadpkaaGreatDoorShelf2
import Derived.Test.YtmfpbhjmnadpkaaGreatDoorPkU4
/- The library's variables that reading wants; strings.Cut at a byte, strconv.Atoi, the program's readNumber. -/
namespace Go.Proofs.YtmfpbhjmnadpkaaGreatDoor.Zt0
open Go.RowKit
open Nd0 (lt_of_cell)
open Ss0 (bs bs_size)
open Ss1 (tl tl_bs bs_tl tl_length)
open Tk0 (TabK laid_at tabk_of_laid)
open Zk0
set_option linter.unusedVariables false

structure TabZ (w : World) : Prop where
  pow : TabK w
  err : ∃ te pe, w.cell? ⟨2, 0, none⟩ = some (.iface te pe)
  rng : ∃ te pe, w.cell? ⟨3, 0, none⟩ = some (.iface te pe)
  max : ∃ m, w.cell? ⟨1, 0, none⟩ = some (.int .i64 m)
theorem TabZ.below {w w' : World} (h : TabZ w) (k : Below w.heap.size w w') : TabZ w' := by
  obtain ⟨te, pe, hc⟩ := h.err
  obtain ⟨t2, p2, hd⟩ := h.rng
  obtain ⟨m, hm⟩ := h.max
  exact ⟨h.pow.below k, ⟨te, pe, by rw [k.cell (p := ⟨_, 0, none⟩) (lt_of_cell hc)]; exact hc⟩, ⟨t2, p2, by rw [k.cell (p := ⟨_, 0, none⟩) (lt_of_cell hd)]; exact hd⟩, ⟨m, by rw [k.cell (p := ⟨_, 0, none⟩) (lt_of_cell hm)]; exact hm⟩⟩
theorem iface_of_trod {P : Program} {W : World} {fuel : Nat} {t : TypeId} {cs : List Value} {nm : String} {d : DataW Unit} {p : List MemPlace} {ms : Array (String × TypeId)} (hu : P.underlying t = some (.interface ms))
    (h : DataW.trod (fun _ => ()) P W 0 (fun _ => true) false fuel t cs = some (.iface nm d, p)) : ∃ te pe, cs = [.iface te pe] := by
  cases fuel with
  | zero => simp [DataW.trod] at h
  | succ f =>
    unfold DataW.trod at h
    rw [hu] at h
    match cs, h with
    | [], h => simp at h
    | [x], h =>
      cases x with
      | iface te pe => exact ⟨te, pe, rfl⟩
      | _ => simp at h
    | x :: y :: r, h => simp at h
theorem gErr : Tryz.prog.globalNamed "strconv.ErrSyntax" = some 2 := by kernel_rfl
theorem gtErr : (Tryz.prog.globals[2]?).map (·.type) = some 74 := by kernel_rfl
theorem gRng : Tryz.prog.globalNamed "strconv.ErrRange" = some 3 := by kernel_rfl
theorem gtRng : (Tryz.prog.globals[3]?).map (·.type) = some 74 := by kernel_rfl
theorem max_of_shaped {w : World} (h : w.ShapedOpen Tryz.prog) : ∃ m, w.cell? ⟨1, 0, none⟩ = some (.int .i64 m) :=
  cell_of_shapedOpen_int (t := 3) (zero := #[.int .i64 0]) h (of_decide_eq_true (by kernel_rfl)) (by kernel_rfl) rfl (by kernel_rfl) (by kernel_rfl) Tryz.underlying3
theorem tabz_of_laid {W : World} {laid : List (String × DataW Unit)} (h : laidMet Tryz.prog laid W)
    (h1 : ("internal/strconv.uint64pow10", Rows.laid_internal_strconv_uint64pow10) ∈ laid) (h2 : ("strconv.ErrSyntax", Rows.laid_strconv_ErrSyntax) ∈ laid) (h3 : ("strconv.ErrRange", Rows.laid_strconv_ErrRange) ∈ laid) (h4 : W.ShapedOpen Tryz.prog) : TabZ W := by
  refine ⟨tabk_of_laid h h1, ?_, ?_, max_of_shaped h4⟩
  · obtain ⟨ps, hL, _⟩ := h
    obtain ⟨g, t, cs, fuel, p, e1, e2, e3, e4⟩ := laid_at hL h2
    obtain rfl := Option.some.inj (gErr.symm.trans e1)
    obtain rfl := Option.some.inj (gtErr.symm.trans e2)
    rw [World.var?_cell e1 e3 0]
    obtain ⟨te, pe, hc⟩ := iface_of_trod Tryz.underlying74 e4
    refine ⟨te, pe, ?_⟩
    rw [← Array.getElem?_toList, hc]; rfl
  · obtain ⟨ps, hL, _⟩ := h
    obtain ⟨g, t, cs, fuel, p, e1, e2, e3, e4⟩ := laid_at hL h3
    obtain rfl := Option.some.inj (gRng.symm.trans e1)
    obtain rfl := Option.some.inj (gtRng.symm.trans e2)
    rw [World.var?_cell e1 e3 0]
    obtain ⟨te, pe, hc⟩ := iface_of_trod Tryz.underlying74 e4
    refine ⟨te, pe, ?_⟩
    rw [← Array.getElem?_toList, hc]; rfl

/-- strings.Cut at one byte. -/
theorem iCut (c : UInt8) (S : ByteArray) (w : World) (hT : TabZ w) (hs : S.size ≤ 1048576) :
    Calls Tryz.prog 54 #[.string S, .string ⟨#[c]⟩] w fun e w' => (∃ b : Bool, e = .returned (.tuple #[.string (bs (cutF c (tl S))), .string (bs (cutS c (tl S))), .bool b])) ∧ Below w.heap.size w w' := by
  obtain ⟨m, hm⟩ := hT.max
  refine (Tryz.strings_Cut S ⟨#[c]⟩ m w (by omega) hm).mono ?_
  rintro e w' ⟨rfl, n, rfl⟩
  refine ⟨⟨(Lib.cut (tl S) [c]).2.2, ?_⟩, Tc2.below_drewN (Below.refl w.heap.size w) n⟩
  rw [← cut_one, ← cut_two]
  rfl
/-- strconv.Atoi of any text. -/
theorem iAtoi (S : ByteArray) (w : World) (hT : TabZ w) (hs : S.size ≤ 1048576) :
    Calls Tryz.prog 116 #[.string S] w fun e w' => (∃ ev, e = .returned (.tuple #[.int .i64 (rnP (tl S)).1, ev]) ∧ ((rnP (tl S)).2 = true → ev = .nilIface) ∧ ((rnP (tl S)).2 = false → ∃ N, ev = .iface 210 (.pointer (some ⟨N, 0, none⟩)))) ∧ Below w.heap.size w w' := by
  unfold rnP
  cases h : Lib.atoiAll (tl S) with
  | ok v =>
    refine (Tryz.strconv_Atoi_ok S (by omega) v h w).mono ?_
    rintro e w' ⟨rfl, hh⟩
    refine ⟨⟨_, rfl, fun _ => rfl, fun e => by cases e⟩, ?_⟩
    rcases hh with rfl | ⟨t, rfl⟩
    · exact Below.refl _ _
    · exact Go.Joins.below_bytesWorld _ _ _ _ (Nat.le_refl _)
  | «syntax» =>
    obtain ⟨te, pe, hc⟩ := hT.err
    refine (Tryz.strconv_Atoi_syntax S (by omega) h _ w hc (.inr ⟨te, pe, rfl⟩)).mono ?_
    rintro e w' ⟨N, rfl, _, _, hb⟩
    exact ⟨⟨_, rfl, fun e => (by cases e), fun _ => ⟨N, rfl⟩⟩, hb⟩
  | range =>
    obtain ⟨te, pe, hc⟩ := hT.rng
    refine (Tryz.strconv_Atoi_range S (by omega) h _ w hc (.inr ⟨te, pe, rfl⟩)).mono ?_
    rintro e w' ⟨N, rfl, _, _, hb⟩
    exact ⟨⟨_, rfl, fun e => (by cases e), fun _ => ⟨N, rfl⟩⟩, hb⟩
set_option maxRecDepth 100000 in
set_option maxHeartbeats 1000000 in
theorem iReadNumber (S : ByteArray) (w : World) (hT : TabZ w) (hs : S.size ≤ 1048576) :
    Calls Tryz.prog 55 #[.string S] w fun e w' => e = .returned (.tuple #[.int .i64 (rnP (tl S)).1, .bool (rnP (tl S)).2]) ∧ Below w.heap.size w w' := by
  have HA : Hid _ := iAtoi S w hT hs
  clear hT hs
  generalize hx : (rnP (tl S)).1 = x at *
  clear hx
  cases hy : (rnP (tl S)).2
  · rw [hy] at HA
    clear hy
    go_enter Tryz.func55, Tryz.ntmps55
    go_wp2_with fail
    refine Calls.mono HA.out ?_
    rintro e w1 ⟨⟨ev, rfl, _, hev⟩, hb⟩
    obtain ⟨N, rfl⟩ := hev (by trivial)
    have HB : Hid (Below w.heap.size w w1) := hb
    clear hb hev
    go_wp2_with fail
    go_quiet (fail)
    go_wp2
    go_ret2
    exact ⟨rfl, Tc2.below_drewN HB.out _⟩
  · rw [hy] at HA
    clear hy
    go_enter Tryz.func55, Tryz.ntmps55
    go_wp2_with fail
    refine Calls.mono HA.out ?_
    rintro e w1 ⟨⟨ev, rfl, hev, _⟩, hb⟩
    obtain rfl := hev (by trivial)
    have HB : Hid (Below w.heap.size w w1) := hb
    clear hb hev
    go_wp2_with fail
    go_quiet (fail)
    go_wp2
    go_ret2
    exact ⟨rfl, Tc2.below_drewN HB.out _⟩
end Go.Proofs.YtmfpbhjmnadpkaaGreatDoor.Zt0

/- The walks of the model's words of operators. -/
namespace Go.Proofs.YtmfpbhjmnadpkaaGreatDoor.Ss2
open Go.RowKit
open Nd0 Tx0 Ss0 Ss1
open Ws1 (ret_int)
set_option linter.unusedVariables false

/-- A slice of the texts ts can be read at address a. -/
def Strs (w : World) (a : Option Addr) (ts : List (List UInt8)) : Prop :=
  ts.length ≤ maxLen ∧ (ts.length = 0 ∨ ∃ b o, a = some ⟨b, o, none⟩ ∧ ∀ i (h : i < ts.length), w.cell? ⟨b, o + i, none⟩ = some (.string (bs ts[i])))
theorem Strs.below {w w' : World} {a : Option Addr} {l : List (List UInt8)} (h : Strs w a l) (k : Below w.heap.size w w') : Strs w' a l := by
  refine ⟨h.1, ?_⟩
  rcases h.2 with h0 | ⟨b, o, rfl, hc⟩
  · exact .inl h0
  · exact .inr ⟨b, o, rfl, fun i hi => by rw [k.cell (lt_of_cell (hc i hi))]; exact hc i hi⟩
theorem strs_lit (W : World) (g : Nat) (l : List (List UInt8)) (T : Nat) (hg : g = W.heap.size) (hl : l.length ≤ maxLen) : Strs (W.alloc (.cells (l.map fun x => .string (bs x)).toArray T)) (some ⟨g, 0, none⟩) l := by
  subst hg
  refine ⟨hl, .inr ⟨W.heap.size, 0, rfl, fun i hi => ?_⟩⟩
  rw [World.cell?_alloc_new]
  simp [hi]
theorem find_range {p : Nat → Bool} : ∀ n k, k < n → p k = true → (∀ j, j < k → p j = false) → (List.range n).find? p = some k := by
  intro n
  induction n with
  | zero => intro k h; omega
  | succ n ih =>
    intro k hk hp hb
    rw [List.range_succ, List.find?_append]
    by_cases e : k < n
    · rw [ih k e hp hb]; rfl
    · have ek : k = n := by omega
      subst ek
      have : (List.range k).find? p = none := by
        rw [List.find?_eq_none]
        intro x hx
        rw [hb x (List.mem_range.1 hx)]; simp
      rw [this]
      simp [hp]
/-- An operator and how many parts it takes, or -1 and 0. -/
def opA (s : List UInt8) : Int := match opOf s with
  | some (o, _) => o
  | none => -1
def opC (s : List UInt8) : Int := match opOf s with
  | some (_, c) => (c : Int)
  | none => 0
theorem op_found {s : List UInt8} {k : Nat} (hk : k < 14) (hb : ∀ j, j < k → wordsL.getD j [] ≠ s) (he : wordsL.getD k [] = s) : opA s = 3 + (k : Int) ∧ opC s = 2 := by
  have : opOf s = some (3 + (k : Int), 2) := by
    unfold opOf
    rw [find_range 14 k hk (decide_eq_true he) (fun j hj => decide_eq_false (hb j hj))]
  unfold opA opC
  rw [this]; exact ⟨rfl, rfl⟩
theorem op_rest {s : List UInt8} (hb : ∀ j, j < 14 → wordsL.getD j [] ≠ s) : opOf s = if s = wNot then some (2, 1) else if s = wSlice then some (17, 1) else if s = wIf then some (18, 3) else if s = wAll then some (19, 1) else if s = wSome then some (20, 1) else none := by
  unfold opOf
  have : (List.range 14).find? (fun i => decide (wordsL.getD i [] = s)) = none := by
    rw [List.find?_eq_none]
    intro x hx
    simpa using hb x (List.mem_range.1 hx)
  rw [this]

end Go.Proofs.YtmfpbhjmnadpkaaGreatDoor.Ss2

/- Lists of texts that are appended to: the law at the walk, and how they are read. -/
namespace Go.Proofs.YtmfpbhjmnadpkaaGreatDoor.Ap4
open Go.RowKit
open Nd0 Ss0 Ss2
set_option linter.unusedVariables false

theorem infoStr : (Tryz.prog.info? 9).map (fun i => (i.zero, i.size, i.bytes)) = some (some (.string ⟨#[]⟩), 1, 16) := by kernel_rfl

/-- The slice v, in a block from B on, is the texts l and may be appended to. -/
def Ost (w : World) (B : Nat) (v : Value) (l : List (List UInt8)) : Prop := w.ownsRow B 9 1 v l.length (l.map fun x => .string (bs x))

theorem Ost.form {w : World} {B : Nat} {v : Value} {l : List (List UInt8)} (h : Ost w B v l) : ∃ a c, v = .slice a l.length c ∧ Strs w a l := by
  obtain ⟨h1, h2⟩ := h
  rcases h2 with ⟨rfl, h0⟩ | ⟨g, cap, cur, rfl, hb, hg, hn, hm, hs, ht⟩
  · have : l = [] := List.eq_nil_of_length_eq_zero h0
    subst this
    exact ⟨none, 0, rfl, Nat.zero_le _, .inl rfl⟩
  · refine ⟨_, _, rfl, by omega, .inr ⟨g, 0, rfl, fun i hi => ?_⟩⟩
    · rw [Nat.zero_add, cell_of_row w g i cur _ _ hg]
      have e : (cur.toList.take (l.length * 1))[i]? = some (.string (bs l[i])) := by rw [ht]; simp [hi]
      rw [List.getElem?_take_of_lt (by omega)] at e
      simpa using e
theorem Ost.lit (w : World) (B : Nat) (hB : B ≤ w.heap.size) : Ost (w.alloc (.cells #[] 9)) B (.slice (some ⟨w.heap.size, 0, none⟩) 0 0) [] :=
  World.ownsRow_lit w #[] 0 hB (Nat.zero_le _) rfl
theorem Ost.lt {w : World} {B : Nat} {v : Value} {l : List (List UInt8)} (h : Ost w B v l) : ∀ k, v.ownBlock = some k → B ≤ k ∧ k < w.heap.size := World.ownsRow.lt h
theorem Ost.kept {w w' : World} {B : Nat} {v : Value} {l : List (List UInt8)} (h : Ost w B v l) {S : Nat → Prop} (k : Kept S w w') (hs : ∀ i, v.ownBlock = some i → ¬ S i) : Ost w' B v l := by
  refine ⟨h.1, ?_⟩
  rcases h.2 with hn | ⟨g, cap, cur, rfl, hb, hgg, rest⟩
  · exact .inl hn
  · refine .inr ⟨g, cap, cur, rfl, hb, ?_, rest⟩
    rw [k.block g (Array.getElem?_eq_some_iff.1 hgg).1 (hs g rfl)]
    exact hgg

/-- One text more. -/
theorem app_str {ops : Array Oper} {rest : List Oper} {o : Oper} {a : Act} {Q : Exit → Act → World → Prop} (W : World) (hgd : o.guard = none) (s x : Operand)
    (ho : o.op = .call { callee := .builtin .append, args := #[s, x], argTypes := #[100, 100] })
    (B : Nat) (v : Value) (l : List (List UInt8)) (y : List UInt8) (hs : a.eval s = v) (hx : a.eval x = .slice (some ⟨W.heap.size, 0, none⟩) 1 1)
    (hown : Ost W B v l) (hB : B ≤ W.heap.size) (hlen : l.length ≤ 1048576)
    (h : ∀ g cap w', Ost w' B (.slice (some ⟨g, 0, none⟩) (l.length + 1) cap) (l ++ [y]) → Kept (fun k => v.ownBlock = some k) W w' → (v.ownBlock = some g ∨ W.heap.size ≤ g) → wpList Tryz.prog ops Q rest (a.put o.dst (.slice (some ⟨g, 0, none⟩) (l.length + 1) cap)) w') :
    wpList Tryz.prog ops Q (o :: rest) a (W.alloc (.cells #[.string (bs y)] 9)) := by
  obtain ⟨i, hi, hzz⟩ := Option.map_eq_some_iff.1 infoStr
  simp only [Prod.mk.injEq] at hzz
  obtain ⟨hz, hsz, hb⟩ := hzz
  refine wpList_append_lies (W.alloc (.cells #[.string (bs y)] 9)) hgd s x 100 ho B 9 i (.string ⟨#[]⟩) 1 16 Tryz.underlying100 hi hz hsz hb rfl (by omega) v l.length (l.map fun x => .string (bs x)) hs (World.ownsRow.alloc hown _)
    ⟨W.heap.size, 0, none⟩ 1 1 [.string (bs y)] hx rfl ?_ ?_ (by omega) (by unfold maxLen; omega) (by omega) (by simp; omega) _ rfl ?_
  · intro j u hu
    exact World.news_of_block (heap_alloc_new W _) j u hu
  · intro u hu
    simp at hu
    subst hu
    rfl
  · intro g cap w' h1 h2 h3 h4
    refine h g cap w' ?_ ?_ ?_
    · unfold Ost
      simpa using h1
    · have k1 : Kept (fun k => v.ownBlock = some k) W (W.alloc (.cells #[.string (bs y)] 9)) := (Kept.refl _ W).alloc _
      exact k1.trans ⟨h2.os, h2.tape, h2.output, h2.size, fun k hk hn => h2.block k hk (fun e => hn e.symm)⟩
    · rcases h3 with h3 | h3
      · exact .inl h3
      · exact .inr (by rw [h3]; simp)

end Go.Proofs.YtmfpbhjmnadpkaaGreatDoor.Ap4

/- Lists of texts that a call has made, appended to in a region that draws its order. -/
namespace Go.Proofs.YtmfpbhjmnadpkaaGreatDoor.Ap5
open Go.RowKit
open Nd0 Ss0 Ss2 Ap4
set_option linter.unusedVariables false

theorem Ost.one (w : World) (B g : Nat) (x : List UInt8) (hg : g = w.heap.size) (hB : B ≤ w.heap.size) : Ost (w.alloc (.cells #[.string (bs x)] 9)) B (.slice (some ⟨g, 0, none⟩) 1 1) [x] := by
  subst hg
  exact World.ownsRow_lit w #[.string (bs x)] 1 hB (by unfold maxLen; omega) rfl
theorem Ost.below {w w' : World} {B : Nat} {v : Value} {l : List (List UInt8)} (h : Ost w B v l) (k : Below w.heap.size w w') : Ost w' B v l := h.kept (S := fun _ => False) (Kept.ofBelow k) (fun _ _ e => e)
/-- What can be appended to has room for what it holds. -/
theorem Ost.cap {w : World} {B : Nat} {a : Option Addr} {n c : Nat} {l : List (List UInt8)} (h : Ost w B (.slice a n c) l) : n = l.length ∧ l.length ≤ c := by
  obtain ⟨h1, h2⟩ := h
  rcases h2 with ⟨e, h0⟩ | ⟨g, cap, cur, e, hb, hg, hn, hm, hs, ht⟩
  · cases e; exact ⟨h0.symm, by omega⟩
  · cases e; exact ⟨rfl, hn⟩
theorem Ost.cells {w : World} {B g n c : Nat} {l : List (List UInt8)} (h : Ost w B (.slice (some ⟨g, 0, none⟩) n c) l) : ∀ i (hi : i < l.length), w.cell? ⟨g, i, none⟩ = some (.string (bs l[i])) := by
  obtain ⟨a, c', hv, hs⟩ := h.form
  cases hv
  intro i hi
  rcases hs.2 with h0 | ⟨b, o, he, hc⟩
  · omega
  · cases he
    have := hc i hi
    rwa [Nat.zero_add] at this

/-- Some texts more, at a step of a region that draws its order. -/
theorem step_app_strs {ops : Array Oper} {o : Oper} {a : Act} {K : Act → World → Prop} {Q : Exit → Act → World → Prop} {E : Prop} (W : World) (hgd : o.guard = none) (s x : Operand)
    (ho : o.op = .call { callee := .builtin .append, args := #[s, x], argTypes := #[100, 100] })
    (B : Nat) (v : Value) (l ys : List (List UInt8)) (gx c : Nat) (hs : a.eval s = v) (hx : a.eval x = .slice (some ⟨gx, 0, none⟩) ys.length c)
    (hy : ∀ i (h : i < ys.length), W.cell? ⟨gx, i, none⟩ = some (.string (bs ys[i]))) (hp : 0 < ys.length)
    (hown : Ost W B v l) (hB : B ≤ W.heap.size) (hlen : l.length + ys.length ≤ 1048577)
    (h : ∀ g cap w', Ost w' B (.slice (some ⟨g, 0, none⟩) (l.length + ys.length) cap) (l ++ ys) → Kept (fun k => v.ownBlock = some k) W w' → (v.ownBlock = some g ∨ W.heap.size ≤ g) → K (a.put o.dst (.slice (some ⟨g, 0, none⟩) (l.length + ys.length) cap)) w') :
    if Region.wanted o (yielded ops a.tmps) = true then Oper.wp Tryz.prog o a W K Q else E := by
  obtain ⟨i, hi, hzz⟩ := Option.map_eq_some_iff.1 infoStr
  simp only [Prod.mk.injEq] at hzz
  obtain ⟨hz, hsz, hb⟩ := hzz
  refine step_append_lies W hgd s x 100 ho B 9 i _ 1 16 Tryz.underlying100 hi hz hsz hb rfl (by omega) v l.length (l.map fun x => .string (bs x)) hs hown
    ⟨gx, 0, none⟩ ys.length c (ys.map fun x => .string (bs x)) hx (by simp) (fun j u hu => ?_) ?_ hp (by unfold maxLen; omega) (by omega) hB _ rfl ?_
  · have hj : j < ys.length := by have := (List.getElem?_eq_some_iff.1 hu).1; simpa using this
    have hadd : (⟨gx, 0, none⟩ : Addr).add j = ⟨gx, j, none⟩ := by unfold Addr.add; split <;> simp_all
    rw [hadd, hy j hj, ← hu]
    simp [hj]
  · intro u hu
    obtain ⟨n, _, rfl⟩ := List.mem_map.1 hu
    rfl
  · intro g cap w' h1 h2 h3 h4
    refine h g cap w' ?_ ?_ ?_
    · unfold Ost
      rw [List.map_append, List.length_append]
      exact h1
    · exact ⟨h2.os, h2.tape, h2.output, h2.size, fun k hk hn => h2.block k hk (fun e => hn e.symm)⟩
    · rcases h3 with h3 | h3
      · exact .inl h3
      · exact .inr (by rw [h3]; exact Nat.le_refl _)

end Go.Proofs.YtmfpbhjmnadpkaaGreatDoor.Ap5
