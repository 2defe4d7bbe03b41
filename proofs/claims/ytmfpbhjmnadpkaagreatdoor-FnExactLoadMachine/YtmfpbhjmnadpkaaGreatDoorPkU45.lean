/- Small texts of mine, one behind the other. -/
import Derived.Deep.CutBlock
import Derived.BigQuiet
import Derived.Deep.RegionLaw
import Derived.Maps.AppendAt
import Derived.Test.YtmfpbhjmnadpkaaGreatDoorPkU34
import Derived.Test.YtmfpbhjmnadpkaaGreatDoorShelf2
import Derived.Test.YtmfpbhjmnadpkaaGreatDoorPkU5
import Derived.Test.YtmfpbhjmnadpkaaGreatDoorPkU18
/- The program's ReadPick. -/
namespace Go.Proofs.YtmfpbhjmnadpkaaGreatDoor.Wp5
open Go.RowKit
open Nd0 (Kept Ints WInts IntsIn lt_of_cell)
open Ap0
open Ss0 (bs bs_size)
open Ss1 (tl tl_length)
open Tc5 (Lay)
open Wp0 Wp1 Wp3 Wp4
set_option linter.unusedVariables false

theorem cut_at (s : List UInt8) : (if 0 ≤ Lib.index s [32] then s.take (Lib.index s [32]).toNat else s) = fstT s ∧ (if 0 ≤ Lib.index s [32] then s.drop ((Lib.index s [32]).toNat + 1) else []) = sndT s := by
  unfold fstT sndT
  induction s with
  | nil => simp [Lib.index]
  | cons c l ih =>
    by_cases h : c = 32
    · subst h
      have e : Lib.index (32 :: l) [32] = 0 := by unfold Lib.index; rw [if_pos (by simp [List.isPrefixOf])]
      rw [e]
      constructor
      · simp
      · simp
    · have hc : (c != 32) = true := by simp [h]
      rw [List.takeWhile_cons_of_pos (p := fun c => c != 32) hc, List.dropWhile_cons_of_pos (p := fun c => c != 32) hc, ← ih.1, ← ih.2]
      have e : Lib.index (c :: l) [32] = if Lib.index l [32] == -1 then -1 else Lib.index l [32] + 1 := by
        conv => lhs; unfold Lib.index
        rw [if_neg (by simp [List.isPrefixOf]; exact fun z => h z.symm)]
      have hg := Lib.index_ge l [32]
      by_cases e1 : Lib.index l [32] = -1
      · rw [e, e1]; simp
      · have h0 : 0 ≤ Lib.index l [32] := by omega
        have e2 : Lib.index (c :: l) [32] = Lib.index l [32] + 1 := by rw [e, if_neg (by simpa using e1)]
        rw [e2, if_pos (by omega), if_pos h0, if_pos (by omega), if_pos h0, show (Lib.index l [32] + 1).toNat = (Lib.index l [32]).toNat + 1 by omega, List.take_succ_cons, List.drop_succ_cons]
        exact ⟨rfl, rfl⟩
def cX (S : ByteArray) : ByteArray := ⟨(Lib.cut S.data.toList [32]).1.toArray⟩
def cY (S : ByteArray) : ByteArray := ⟨(Lib.cut S.data.toList [32]).2.1.toArray⟩
def cB (S : ByteArray) : Bool := (Lib.cut S.data.toList [32]).2.2
theorem cX_tl (S : ByteArray) : tl (cX S) = fstT (tl S) := by
  show (Lib.cut (tl S) [32]).1 = _
  rw [← (cut_at (tl S)).1]
  unfold Lib.cut
  split <;> rfl
theorem cY_tl (S : ByteArray) : tl (cY S) = sndT (tl S) := by
  show (Lib.cut (tl S) [32]).2.1 = _
  rw [← (cut_at (tl S)).2]
  unfold Lib.cut
  split <;> rfl
theorem fst_le (t : List UInt8) : (fstT t).length ≤ t.length := by unfold fstT; exact (List.takeWhile_sublist _).length_le
theorem snd_le (t : List UInt8) : (sndT t).length ≤ t.length := by unfold sndT; rw [List.length_drop]; have := (List.dropWhile_sublist (l := t) (fun c => c != 32)).length_le; omega
theorem iCut (S : ByteArray) (w : World) (hm : ∃ m, w.cell? ⟨1, 0, none⟩ = some (.int .i64 m)) (hs : S.size ≤ 1048576) :
    Calls Tryz.prog 54 #[.string S, .string ⟨#[32]⟩] w fun e w' => e = .returned (.tuple #[.string (cX S), .string (cY S), .bool (cB S)]) ∧ ∃ n, w' = w.drewN n := by
  obtain ⟨m, hm⟩ := hm
  exact Tryz.strings_Cut S ⟨#[32]⟩ m w (by omega) hm
/-- What reading comes to. -/
def RdOut (w : World) (l : List Int) (v : Int) (ok : Bool) (e : Ending) (w' : World) : Prop :=
  ∃ a c, e = .returned (.tuple #[pv a l.length c v, .bool ok]) ∧ IntsIn w' w.heap.size w'.heap.size a l ∧ Below w.heap.size w w'
theorem ows_in {w w' : World} {B B' : Nat} {a : Option Addr} {n c : Nat} {l : List Int} (h : Ows w B (.slice a n c) l) (hB : B' ≤ B) {S : Nat → Prop} (k : Kept S w w') (hs : ∀ b, B ≤ b → ¬ S b) : n = l.length ∧ IntsIn w' B' w'.heap.size a l := by
  obtain ⟨a2, c2, e2, f2⟩ := h.form
  cases e2
  refine ⟨rfl, f2.1, ?_⟩
  rcases f2.2 with e | ⟨b, o, ha, hb, hc⟩
  · exact .inl e
  · by_cases e : l.length = 0
    · exact .inl e
    have hlt : b < w.heap.size := lt_of_cell (hc 0 (by omega)).1
    have := k.size
    exact .inr ⟨b, o, ha, by omega, by omega, fun i hi => ⟨by rw [k.cell (p := ⟨b, o + i, none⟩) hlt (hs b hb)]; exact (hc i hi).1, by rw [k.frozen (p := ⟨b, o + i, none⟩) hlt (hs b hb)]; exact (hc i hi).2⟩⟩

def RdP (w : World) (t : List UInt8) (e : Ending) (w' : World) : Prop := if okP t = true then RdOut w (rvL (fstT t)) ((rvL (sndT t)).getD 0 0) true e w' else RdOut w [] 0 false e w'
end Go.Proofs.YtmfpbhjmnadpkaaGreatDoor.Wp5

/- The model's PickText. -/
namespace Go.Proofs.YtmfpbhjmnadpkaaGreatDoor.Wp2
open Go.RowKit
open Ta2 (bitB)
open Vo0 (allB valB)
open Tc2 (sInT sInF)
open Nd0 (Kept Ints lt_of_cell)
open Ss0 (bs bs_size bs_app ret_str)
open Wp0 Wp1
set_option linter.unusedVariables false

theorem cut01 {x : Int} (h : bitB x = true) : (ByteArray.mk #[48, 49]).extract x.toNat (x.toNat + 1) = bs [dgt x] := by
  rcases bit_two h with e | e <;> subst e <;> rfl
theorem bit_in {x : Int} : bitB x = true ↔ 0 ≤ x ∧ x ≤ 1 := by
  unfold bitB
  rw [decide_eq_true_iff]
  omega
end Go.Proofs.YtmfpbhjmnadpkaaGreatDoor.Wp2

/- The model's ReadPick. -/
namespace Go.Proofs.YtmfpbhjmnadpkaaGreatDoor.Wp6
open Go.RowKit
open Nd0 (Kept Ints WInts IntsIn lt_of_cell)
open Ap0
open Ss0 (bs bs_size)
open Ss1 (tl tl_length)
open Tc5 (Lay)
open Wp0 Wp1 Wp2 Wp3 Wp4 Wp5
set_option linter.unusedVariables false

/-- One more number, at a step of a region that draws. -/
theorem step_int {ops : Array Oper} {o : Oper} {a : Act} {K : Act → World → Prop} {Q : Exit → Act → World → Prop} {E : Prop} (W : World) (hgd : o.guard = none) (s x : Operand)
    (ho : o.op = .call { callee := .builtin .append, args := #[s, x], argTypes := #[27, 27] })
    (B : Nat) (v : Value) (l : List Int) (y : Int) (hs : a.eval s = v) (G : Nat) (hx : a.eval x = .slice (some ⟨G, 0, none⟩) 1 1) (hy : W.cell? ⟨G, 0, none⟩ = some (.int .i64 y))
    (hown : Ows W B v l) (hB : B ≤ W.heap.size) (hlen : l.length ≤ 1048576)
    (h : ∀ g cap w', Ows w' B (.slice (some ⟨g, 0, none⟩) (l.length + 1) cap) (l ++ [y]) → Kept (fun k => v.ownBlock = some k) W w' → (v.ownBlock = some g ∨ W.heap.size ≤ g) → K (a.put o.dst (.slice (some ⟨g, 0, none⟩) (l.length + 1) cap)) w') :
    if Region.wanted o (yielded ops a.tmps) = true then Oper.wp Tryz.prog o a W K Q else E := by
  obtain ⟨i, hi, hzz⟩ := Option.map_eq_some_iff.1 infoInt
  simp only [Prod.mk.injEq] at hzz
  obtain ⟨hz, hsz, hb⟩ := hzz
  refine step_append_lies W hgd s x 27 ho B 3 i _ 1 8 Tryz.underlying27 hi hz hsz hb rfl (by omega) v l.length (l.map fun x => .int .i64 x) hs hown
    ⟨G, 0, none⟩ 1 1 [.int .i64 y] hx rfl ?_ (by intro u hu; simp at hu; subst hu; rfl) (by omega) (by unfold maxLen; omega) (by omega) hB _ rfl ?_
  · intro j u hu
    have hj : j < 1 := (List.getElem?_eq_some_iff.1 hu).1
    have hadd : (⟨G, 0, none⟩ : Addr).add j = ⟨G, j, none⟩ := by unfold Addr.add; split <;> simp_all
    rw [hadd]
    match j, hj with
    | 0, _ => rw [hy]; exact hu
  · intro g cap w' h1 h2 h3 h4
    refine h g cap w' ?_ ?_ ?_
    · unfold Ows
      simpa using h1
    · exact ⟨h2.os, h2.tape, h2.output, h2.size, fun k hk hn => h2.block k hk (fun e => hn e.symm)⟩
    · rcases h3 with h3 | h3
      · exact .inl h3
      · exact .inr (by rw [h3]; exact Nat.le_refl _)
open Classical in
noncomputable def okM (t : List UInt8) : Bool := decide ((3 ≤ t.length ∧ t.length ≤ 20) ∧ pkT (mL t) (mV t) = bs t)
def RdM (w : World) (t : List UInt8) (e : Ending) (w' : World) : Prop := if okM t = true then RdOut w (mL t) (mV t) true e w' else RdOut w [] 0 false e w'
/-- What stands while the values are read. -/
structure Rs (w W : World) (v : Value) (l : List Int) (V : Int) : Prop where
  bel : Below w.heap.size w W
  res : Lay W w.heap.size (.slice none 0 0) (.int .i64 0)
  box : Lay W (w.heap.size + 1) v (.int .i64 V)
  own : Ows W (w.heap.size + 2) v l
theorem Rs.below {w W W' : World} {v : Value} {l : List Int} {V : Int} (h : Rs w W v l V) (k : Below W.heap.size W W') : Rs w W' v l V :=
  ⟨h.bel.trans (k.mono h.bel.size), h.res.below k, h.box.below k, h.own.kept (S := fun _ => False) (Kept.ofBelow k) (fun _ _ h => h)⟩
theorem Rs.put {w W W' : World} {v v' : Value} {l l' : List Int} {V : Int} (h : Rs w W v l V) (k : Kept (fun i => v.ownBlock = some i) W W') (ho : Ows W' (w.heap.size + 2) v' l') : Rs w (W'.setCell ⟨w.heap.size + 1, 0, none⟩ v') v' l' V := by
  have hn : ∀ i, v.ownBlock = some i → w.heap.size + 2 ≤ i := fun i hi => (h.own.lt i hi).1
  have hr := h.res.kept k (fun e => by have := hn _ e; omega)
  have hx := h.box.kept k (fun e => by have := hn _ e; omega)
  have K2 : Kept (fun b => b = w.heap.size + 1) W' (W'.setCell ⟨w.heap.size + 1, 0, none⟩ v') := (Kept.refl (fun b => b = w.heap.size + 1) W').setCell (p := ⟨w.heap.size + 1, 0, none⟩) rfl _
  refine ⟨(h.bel.trans (k.below (fun i hi => by have := hn i hi; omega) h.bel.size)).trans (K2.below (fun b hb => by omega) (Nat.le_trans h.bel.size k.size)), hr.kept K2 (by omega), ⟨Nd0.set_same hx.c0, by rw [Nd0.set_other (by simp)]; exact hx.c1, by rw [World.frozen?_setCell]; exact hx.f0, by rw [World.frozen?_setCell]; exact hx.f1⟩, ho.kept K2 (fun i hi e => by have := (ho.lt i hi).1; omega)⟩

end Go.Proofs.YtmfpbhjmnadpkaaGreatDoor.Wp6
