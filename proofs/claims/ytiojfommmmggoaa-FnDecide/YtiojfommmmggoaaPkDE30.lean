/- Small texts of mine, one behind the other. -/
import Derived.Test.YtiojfommmmggoaaRows
import Derived.Deep.AppendLies
import Derived.OwnWalk
import Derived.Laws.IdiomStrings
import Derived.Test.YtiojfommmmggoaaPkDE0
import Derived.Test.YtiojfommmmggoaaPkDE29
/- Lists of bytes that are appended to and written: the law at the walk, and how they are read. -/
namespace Go.Proofs.Ytiojfommmmggoaa.Ap9
open Go.RowKit
open Nd0
set_option linter.unusedVariables false

def WBys (w : World) (B : Nat) (a : Option Addr) (l : List UInt8) : Prop :=
  l.length ≤ maxLen ∧ (l.length = 0 ∨ ∃ b o, a = some ⟨b, o, none⟩ ∧ B ≤ b ∧ ∀ i (h : i < l.length), w.cell? ⟨b, o + i, none⟩ = some (.int .u8 (l[i].toNat : Int)) ∧ w.frozen? ⟨b, o + i, none⟩ = false)

theorem infoByte : (Try.prog.info? 5).map (fun i => (i.zero, i.size, i.bytes)) = some (some (.int .u8 0), 1, 1) := by kernel_rfl

def Owu (w : World) (B : Nat) (v : Value) (l : List UInt8) : Prop := w.ownsRow B 5 1 v l.length (l.map fun x => .int .u8 (x.toNat : Int))

theorem Owu.form {w : World} {B : Nat} {v : Value} {l : List UInt8} (h : Owu w B v l) : ∃ a c, v = .slice a l.length c ∧ WBys w B a l := by
  obtain ⟨h1, h2⟩ := h
  rcases h2 with ⟨rfl, h0⟩ | ⟨g, cap, cur, rfl, hb, hg, hn, hm, hs, ht⟩
  · have : l = [] := List.eq_nil_of_length_eq_zero h0
    subst this
    exact ⟨none, 0, rfl, Nat.zero_le _, .inl rfl⟩
  · refine ⟨_, _, rfl, by omega, .inr ⟨g, 0, rfl, hb, fun i hi => ⟨?_, ?_⟩⟩⟩
    · rw [Nat.zero_add, cell_of_row w g i cur _ _ hg]
      have e : (cur.toList.take (l.length * 1))[i]? = some (.int .u8 (l[i].toNat : Int)) := by rw [ht]; simp [hi]
      rw [List.getElem?_take_of_lt (by omega)] at e
      simpa using e
    · rw [Nat.zero_add]
      simp [World.frozen?, hg]
theorem Owu.lit (w : World) (B : Nat) (hB : B ≤ w.heap.size) : Owu (w.alloc (.cells #[] 5)) B (.slice (some ⟨w.heap.size, 0, none⟩) 0 0) [] :=
  World.ownsRow_lit w #[] 0 hB (Nat.zero_le _) rfl
theorem Owu.lt {w : World} {B : Nat} {v : Value} {l : List UInt8} (h : Owu w B v l) : ∀ k, v.ownBlock = some k → B ≤ k ∧ k < w.heap.size := World.ownsRow.lt h
theorem Owu.kept {w w' : World} {B : Nat} {v : Value} {l : List UInt8} (h : Owu w B v l) {S : Nat → Prop} (k : Kept S w w') (hs : ∀ i, v.ownBlock = some i → ¬ S i) : Owu w' B v l := by
  refine ⟨h.1, ?_⟩
  rcases h.2 with hn | ⟨g, cap, cur, rfl, hb, hgg, rest⟩
  · exact .inl hn
  · refine .inr ⟨g, cap, cur, rfl, hb, ?_, rest⟩
    rw [k.block g (Array.getElem?_eq_some_iff.1 hgg).1 (hs g rfl)]
    exact hgg

theorem Owu.set {w : World} {B g cap : Nat} {l : List UInt8} (h : Owu w B (.slice (some ⟨g, 0, none⟩) l.length cap) l) (j : Nat) (x : UInt8) : Owu (w.setCell ⟨g, j, none⟩ (.int .u8 (x.toNat : Int))) B (.slice (some ⟨g, 0, none⟩) l.length cap) (l.set j x) := by
  have h1 := (World.ownsRow.stored h j (.int .u8 (x.toNat : Int))).1
  unfold Owu
  rw [List.map_set, List.length_set]
  exact h1
theorem Owu.cell {w : World} {B g cap : Nat} {l : List UInt8} (h : Owu w B (.slice (some ⟨g, 0, none⟩) l.length cap) l) (j : Nat) (hj : j < l.length) : w.cell? ⟨g, j, none⟩ = some (.int .u8 (l[j].toNat : Int)) ∧ w.frozen? ⟨g, j, none⟩ = false := by
  obtain ⟨a, c, hv, hw⟩ := h.form
  cases hv
  rcases hw.2 with h0 | ⟨b, o, hb, _, hc⟩
  · omega
  · cases hb
    have := hc j hj
    rw [Nat.zero_add] at this
    exact this

theorem Owu.set' {w : World} {B g cap n : Nat} {l : List UInt8} (h : Owu w B (.slice (some ⟨g, 0, none⟩) n cap) l) (hn : l.length = n) (j : Nat) (x : UInt8) : Owu (w.setCell ⟨g, j, none⟩ (.int .u8 (x.toNat : Int))) B (.slice (some ⟨g, 0, none⟩) n cap) (l.set j x) := by
  subst hn; exact h.set j x
theorem Owu.cell' {w : World} {B g cap n : Nat} {l : List UInt8} (h : Owu w B (.slice (some ⟨g, 0, none⟩) n cap) l) (hn : l.length = n) (j : Nat) (hj : j < n) : w.cell? ⟨g, j, none⟩ = some (.int .u8 ((l[j]'(by omega)).toNat : Int)) ∧ w.frozen? ⟨g, j, none⟩ = false := by
  subst hn; exact h.cell j hj
theorem Owu.at {w : World} {B : Nat} {v : Value} {l : List UInt8} (h : Owu w B v l) (hl : 1 ≤ l.length) : ∃ g c, v = .slice (some ⟨g, 0, none⟩) l.length c ∧ B ≤ g ∧ g < w.heap.size := by
  rcases h.2 with ⟨rfl, h0⟩ | ⟨g, cap, cur, rfl, hb, hg, _⟩
  · omega
  · exact ⟨g, cap, rfl, hb, (Array.getElem?_eq_some_iff.1 hg).1⟩

theorem app_byte {ops : Array Oper} {rest : List Oper} {o : Oper} {a : Act} {Q : Exit → Act → World → Prop} (W : World) (hgd : o.guard = none) (s x : Operand)
    (ho : o.op = .call { callee := .builtin .append, args := #[s, x], argTypes := #[22, 22] })
    (B : Nat) (v : Value) (l : List UInt8) (y : UInt8) (z : Int) (hz0 : z = (y.toNat : Int)) (hs : a.eval s = v) (hx : a.eval x = .slice (some ⟨W.heap.size, 0, none⟩) 1 1)
    (hown : Owu W B v l) (hB : B ≤ W.heap.size) (hlen : l.length ≤ 1048576)
    (h : ∀ g cap w', Owu w' B (.slice (some ⟨g, 0, none⟩) (l.length + 1) cap) (l ++ [y]) → Kept (fun k => v.ownBlock = some k) W w' → (v.ownBlock = some g ∨ W.heap.size ≤ g) → wpList Try.prog ops Q rest (a.put o.dst (.slice (some ⟨g, 0, none⟩) (l.length + 1) cap)) w') :
    wpList Try.prog ops Q (o :: rest) a (W.alloc (.cells #[.int .u8 z] 5)) := by
  subst hz0
  obtain ⟨i, hi, hzz⟩ := Option.map_eq_some_iff.1 infoByte
  simp only [Prod.mk.injEq] at hzz
  obtain ⟨hz, hsz, hb⟩ := hzz
  refine wpList_append_lies (W.alloc (.cells #[.int .u8 (y.toNat : Int)] 5)) hgd s x 22 ho B 5 i (.int .u8 0) 1 1 Try.underlying22 hi hz hsz hb rfl (by omega) v l.length (l.map fun x => .int .u8 (x.toNat : Int)) hs (World.ownsRow.alloc hown _)
    ⟨W.heap.size, 0, none⟩ 1 1 [.int .u8 (y.toNat : Int)] hx rfl ?_ ?_ (by omega) (by unfold maxLen; omega) (by omega) (by simp; omega) _ rfl ?_
  · intro j u hu
    exact World.news_of_block (heap_alloc_new W _) j u hu
  · intro u hu
    simp at hu
    subst hu
    rfl
  · intro g cap w' h1 h2 h3 h4
    refine h g cap w' ?_ ?_ ?_
    · unfold Owu
      simpa using h1
    · have k1 : Kept (fun k => v.ownBlock = some k) W (W.alloc (.cells #[.int .u8 (y.toNat : Int)] 5)) := (Kept.refl _ W).alloc _
      exact k1.trans ⟨h2.os, h2.tape, h2.output, h2.size, fun k hk hn => h2.block k hk (fun e => hn e.symm)⟩
    · rcases h3 with h3 | h3
      · exact .inl h3
      · exact .inr (by rw [h3]; simp)

end Go.Proofs.Ytiojfommmmggoaa.Ap9

/- The model's functions over tables: count, known, not. -/
namespace Go.Proofs.Ytiojfommmmggoaa.Td1
open Go.RowKit
open Ta0 Ta1 Tc2 Tc5 Ap9
open Nd0 (Kept set_other set_same lt_of_cell)
open Ss0 (bs bs_size)
open Ss1 (tl tl_length tl_get tl_take tl_bs)
set_option linter.unusedVariables false

theorem sOk1 (n : Nat) (F : Nat → Bool) (w : World) (hn : n ≤ 12) :
    Calls Try.prog 58 #[tv (n : Int) (bs (tab n F))] w fun e w' => e = .returned (.bool true) ∧ Below w.heap.size w w' := by
  have := sTableOk (n : Int) (bs (tab n F)) w (by rw [bs_size, tab_length]; have := p12 hn; omega)
  rwa [tl_bs, tab_tok F hn] at this
structure Sg (S : ByteArray) (P : Nat) (F : Nat → Bool) : Prop where
  size : S.size = P
  at_ : ∀ k (h : k < S.size), (S[k].toNat : Int) = 48 + ((F k).toNat : Int)
theorem sg_tab (n : Nat) (F : Nat → Bool) : Sg (bs (tab n F)) (2 ^ n) F :=
  ⟨by rw [bs_size, tab_length], fun k h => by rw [bs_tab_get, sgn_toNat]; push_cast; rfl⟩

end Go.Proofs.Ytiojfommmmggoaa.Td1

/- The model's functions over tables: not, both, half. -/
namespace Go.Proofs.Ytiojfommmmggoaa.Td2
open Go.RowKit
open Ta0 Ta1 Tc2 Tc5 Ap9 Td1
open Nd0 (Kept set_other set_same lt_of_cell)
open Ss0 (bs bs_size bs_ext)
open Ss1 (tl tl_length tl_get tl_take tl_bs)
set_option linter.unusedVariables false

theorem _root_.Go.Proofs.Ytiojfommmmggoaa.Ap9.Owu.text {W : World} {B : Nat} {v : Value} {l : List UInt8} (h : Owu W B v l) (hl : 1 ≤ l.length) : (convert 22 9 v).run Try.prog W = .ok (.string (bs l)) W := by
  obtain ⟨a, c, rfl, hw⟩ := h.form
  rcases hw.2 with h0 | ⟨b, o, rfl, _, hc⟩
  · omega
  · exact run_convert_bytes_back (P := Try.prog) W 22 9 5 ⟨b, o, none⟩ c l Try.underlying22 Try.underlying5 Try.underlying9 (fun j hj => by rw [Addr.add_lit]; exact (hc j hj).1)

def tk (n : Nat) (G : Nat → Bool) (k : Nat) : List UInt8 := (tab n G).take k
theorem tk_len {n : Nat} {G : Nat → Bool} {k : Nat} (h : k ≤ 2 ^ n) : (tk n G k).length = k := by unfold tk; rw [List.length_take, tab_length]; omega
theorem tk_succ {n : Nat} {G : Nat → Bool} {k : Nat} (h : k < 2 ^ n) : tk n G (k + 1) = tk n G k ++ [sgn (G k)] := by
  unfold tk
  rw [List.take_succ_eq_append_getElem (by rw [tab_length]; exact h), tab_get]
theorem tk_all (n : Nat) (G : Nat → Bool) : tk n G (2 ^ n) = tab n G := by unfold tk; rw [List.take_of_length_le (by rw [tab_length]; omega)]

theorem finT {w W : World} {r : Nat} {a b : Value} (hr : Lay W r a b) (hb : Below w.heap.size w W) (hw : w.heap.size ≤ r) (x y : Value) :
    ∃ W', W' = (W.setCell ⟨r, 0, none⟩ x).setCell ⟨r, 1, none⟩ y ∧ Lay W' r x y ∧ Below w.heap.size w W' := by
  have K : Kept (fun b => b = r) W ((W.setCell ⟨r, 0, none⟩ x).setCell ⟨r, 1, none⟩ y) := kset (S := fun b => b = r) (kset (S := fun b => b = r) (Kept.refl (fun b => b = r) W) rfl _) rfl _
  exact ⟨_, rfl, hr.put x y, hb.trans (K.below (fun b hb => by omega) hb.size)⟩

end Go.Proofs.Ytiojfommmmggoaa.Td2
