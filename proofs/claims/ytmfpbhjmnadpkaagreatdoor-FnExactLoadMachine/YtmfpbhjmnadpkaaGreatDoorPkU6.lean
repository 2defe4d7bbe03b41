/- Small texts of mine, one behind the other. -/
import Derived.Test.YtmfpbhjmnadpkaaGreatDoorRows
import Derived.Deep.AppendLies
import Derived.OwnWalk
import Derived.Laws.IdiomStrings
import Derived.WalkKit
import Derived.WalkSpells
import Derived.WalkLawsBesides
import Derived.Deep.QuietTactic
import Derived.BigQuiet
import Derived.Deep.RegionWith
import Derived.Test.YtmfpbhjmnadpkaaGreatDoorPkU1
import Derived.Test.YtmfpbhjmnadpkaaGreatDoorPkU5
/- Lists of bytes that are appended to and written: the law at the walk, and how they are read. -/
namespace Go.Proofs.YtmfpbhjmnadpkaaGreatDoor.Ap9
open Go.RowKit
open Nd0
set_option linter.unusedVariables false

/-- A slice of the bytes l, in a block from B on, that may be written. -/
def WBys (w : World) (B : Nat) (a : Option Addr) (l : List UInt8) : Prop :=
  l.length ≤ maxLen ∧ (l.length = 0 ∨ ∃ b o, a = some ⟨b, o, none⟩ ∧ B ≤ b ∧ ∀ i (h : i < l.length), w.cell? ⟨b, o + i, none⟩ = some (.int .u8 (l[i].toNat : Int)) ∧ w.frozen? ⟨b, o + i, none⟩ = false)

theorem infoByte : (Tryz.prog.info? 5).map (fun i => (i.zero, i.size, i.bytes)) = some (some (.int .u8 0), 1, 1) := by kernel_rfl

/-- The slice v, in a block from B on, is the bytes l and may be appended to. -/
def Owu (w : World) (B : Nat) (v : Value) (l : List UInt8) : Prop := w.ownsRow B 5 1 v l.length (l.map fun x => .int .u8 (x.toNat : Int))

theorem Owu.form {w : World} {B : Nat} {v : Value} {l : List UInt8} (h : Owu w B v l) : ∃ a c, v = .slice a l.length c ∧ WBys w B a l := by
  obtain ⟨h1, h2⟩ := h
  rcases h2 with ⟨rfl, h0⟩ | ⟨g, cap, cur, rfl, hb, hg, hn, hm, hs, ht⟩
  · have : l = [] := List.eq_nil_of_length_eq_zero h0
    subst this
    exact ⟨none, 0, rfl, Nat.zero_le _, .inl rfl⟩
  · refine ⟨_, _, rfl, by omega, .inr ⟨g, 0, rfl, hb, fun i hi => ⟨?_, ?_⟩⟩⟩
    · rw [Nat.zero_add, cell_of_row w g i cur _ _ hg]
      have e : (cur.toList.take (l.length * 1))[i]? = some (.int .u8 (l[i].toNat : Int)) := by rw [ht]; simp [hi]
      rw [List.getElem?_take_of_lt (by omega)] at e
      simpa using e
    · rw [Nat.zero_add]
      simp [World.frozen?, hg]
theorem Owu.lit (w : World) (B : Nat) (hB : B ≤ w.heap.size) : Owu (w.alloc (.cells #[] 5)) B (.slice (some ⟨w.heap.size, 0, none⟩) 0 0) [] :=
  World.ownsRow_lit w #[] 0 hB (Nat.zero_le _) rfl
theorem Owu.lt {w : World} {B : Nat} {v : Value} {l : List UInt8} (h : Owu w B v l) : ∀ k, v.ownBlock = some k → B ≤ k ∧ k < w.heap.size := World.ownsRow.lt h
theorem Owu.kept {w w' : World} {B : Nat} {v : Value} {l : List UInt8} (h : Owu w B v l) {S : Nat → Prop} (k : Kept S w w') (hs : ∀ i, v.ownBlock = some i → ¬ S i) : Owu w' B v l := by
  refine ⟨h.1, ?_⟩
  rcases h.2 with hn | ⟨g, cap, cur, rfl, hb, hgg, rest⟩
  · exact .inl hn
  · refine .inr ⟨g, cap, cur, rfl, hb, ?_, rest⟩
    rw [k.block g (Array.getElem?_eq_some_iff.1 hgg).1 (hs g rfl)]
    exact hgg

/-- A byte written over. -/
theorem Owu.set {w : World} {B g cap : Nat} {l : List UInt8} (h : Owu w B (.slice (some ⟨g, 0, none⟩) l.length cap) l) (j : Nat) (x : UInt8) : Owu (w.setCell ⟨g, j, none⟩ (.int .u8 (x.toNat : Int))) B (.slice (some ⟨g, 0, none⟩) l.length cap) (l.set j x) := by
  have h1 := (World.ownsRow.stored h j (.int .u8 (x.toNat : Int))).1
  unfold Owu
  rw [List.map_set, List.length_set]
  exact h1
theorem Owu.cell {w : World} {B g cap : Nat} {l : List UInt8} (h : Owu w B (.slice (some ⟨g, 0, none⟩) l.length cap) l) (j : Nat) (hj : j < l.length) : w.cell? ⟨g, j, none⟩ = some (.int .u8 (l[j].toNat : Int)) ∧ w.frozen? ⟨g, j, none⟩ = false := by
  obtain ⟨a, c, hv, hw⟩ := h.form
  cases hv
  rcases hw.2 with h0 | ⟨b, o, hb, _, hc⟩
  · omega
  · cases hb
    have := hc j hj
    rw [Nat.zero_add] at this
    exact this

theorem Owu.set' {w : World} {B g cap n : Nat} {l : List UInt8} (h : Owu w B (.slice (some ⟨g, 0, none⟩) n cap) l) (hn : l.length = n) (j : Nat) (x : UInt8) : Owu (w.setCell ⟨g, j, none⟩ (.int .u8 (x.toNat : Int))) B (.slice (some ⟨g, 0, none⟩) n cap) (l.set j x) := by
  subst hn; exact h.set j x
theorem Owu.cell' {w : World} {B g cap n : Nat} {l : List UInt8} (h : Owu w B (.slice (some ⟨g, 0, none⟩) n cap) l) (hn : l.length = n) (j : Nat) (hj : j < n) : w.cell? ⟨g, j, none⟩ = some (.int .u8 ((l[j]'(by omega)).toNat : Int)) ∧ w.frozen? ⟨g, j, none⟩ = false := by
  subst hn; exact h.cell j hj
theorem Owu.at {w : World} {B : Nat} {v : Value} {l : List UInt8} (h : Owu w B v l) (hl : 1 ≤ l.length) : ∃ g c, v = .slice (some ⟨g, 0, none⟩) l.length c ∧ B ≤ g ∧ g < w.heap.size := by
  rcases h.2 with ⟨rfl, h0⟩ | ⟨g, cap, cur, rfl, hb, hg, _⟩
  · omega
  · exact ⟨g, cap, rfl, hb, (Array.getElem?_eq_some_iff.1 hg).1⟩

/-- One byte more. -/
theorem app_byte {ops : Array Oper} {rest : List Oper} {o : Oper} {a : Act} {Q : Exit → Act → World → Prop} (W : World) (hgd : o.guard = none) (s x : Operand)
    (ho : o.op = .call { callee := .builtin .append, args := #[s, x], argTypes := #[22, 22] })
    (B : Nat) (v : Value) (l : List UInt8) (y : UInt8) (z : Int) (hz0 : z = (y.toNat : Int)) (hs : a.eval s = v) (hx : a.eval x = .slice (some ⟨W.heap.size, 0, none⟩) 1 1)
    (hown : Owu W B v l) (hB : B ≤ W.heap.size) (hlen : l.length ≤ 1048576)
    (h : ∀ g cap w', Owu w' B (.slice (some ⟨g, 0, none⟩) (l.length + 1) cap) (l ++ [y]) → Kept (fun k => v.ownBlock = some k) W w' → (v.ownBlock = some g ∨ W.heap.size ≤ g) → wpList Tryz.prog ops Q rest (a.put o.dst (.slice (some ⟨g, 0, none⟩) (l.length + 1) cap)) w') :
    wpList Tryz.prog ops Q (o :: rest) a (W.alloc (.cells #[.int .u8 z] 5)) := by
  subst hz0
  obtain ⟨i, hi, hzz⟩ := Option.map_eq_some_iff.1 infoByte
  simp only [Prod.mk.injEq] at hzz
  obtain ⟨hz, hsz, hb⟩ := hzz
  refine wpList_append_lies (W.alloc (.cells #[.int .u8 (y.toNat : Int)] 5)) hgd s x 22 ho B 5 i (.int .u8 0) 1 1 Tryz.underlying22 hi hz hsz hb rfl (by omega) v l.length (l.map fun x => .int .u8 (x.toNat : Int)) hs (World.ownsRow.alloc hown _)
    ⟨W.heap.size, 0, none⟩ 1 1 [.int .u8 (y.toNat : Int)] hx rfl ?_ ?_ (by omega) (by unfold maxLen; omega) (by omega) (by simp; omega) _ rfl ?_
  · intro j u hu
    exact World.news_of_block (heap_alloc_new W _) j u hu
  · intro u hu
    simp at hu
    subst hu
    rfl
  · intro g cap w' h1 h2 h3 h4
    refine h g cap w' ?_ ?_ ?_
    · unfold Owu
      simpa using h1
    · have k1 : Kept (fun k => v.ownBlock = some k) W (W.alloc (.cells #[.int .u8 (y.toNat : Int)] 5)) := (Kept.refl _ W).alloc _
      exact k1.trans ⟨h2.os, h2.tape, h2.output, h2.size, fun k hk hn => h2.block k hk (fun e => hn e.symm)⟩
    · rcases h3 with h3 | h3
      · exact .inl h3
      · exact .inr (by rw [h3]; simp)

end Go.Proofs.YtmfpbhjmnadpkaaGreatDoor.Ap9

/- The model's functions over tables: count, known, not. -/
namespace Go.Proofs.YtmfpbhjmnadpkaaGreatDoor.Td1
open Go.RowKit
open Ta0 Ta1 Tc2 Tc5 Ap9
open Nd0 (Kept set_other set_same lt_of_cell)
open Ss0 (bs bs_size ret_str)
open Ss1 (tl tl_length tl_get tl_take bs_tl tl_bs tl_inj eqb)
set_option linter.unusedVariables false

theorem sOk1 (n : Nat) (F : Nat → Bool) (w : World) (hn : n ≤ 12) :
    Calls Tryz.prog 112 #[tv (n : Int) (bs (tab n F))] w fun e w' => e = .returned (.bool true) ∧ Below w.heap.size w w' := by
  have := sTableOk (n : Int) (bs (tab n F)) w (by rw [bs_size, tab_length]; have := p12 hn; omega)
  rwa [tl_bs, tab_tok F hn] at this
theorem sOk0 {N : Int} {S : ByteArray} (w : World) (hS : S.size ≤ 1048576) (h : tokB N (tl S) = false) :
    Calls Tryz.prog 112 #[tv N S] w fun e w' => e = .returned (.bool false) ∧ Below w.heap.size w w' := by
  have := sTableOk N S w hS
  rwa [h] at this

/-- What a right table's string has: its size and its signs. -/
structure Sg (S : ByteArray) (P : Nat) (F : Nat → Bool) : Prop where
  size : S.size = P
  at_ : ∀ k (h : k < S.size), (S[k].toNat : Int) = 48 + ((F k).toNat : Int)
theorem sg_tab (n : Nat) (F : Nat → Bool) : Sg (bs (tab n F)) (2 ^ n) F :=
  ⟨by rw [bs_size, tab_length], fun k h => by rw [bs_tab_get, sgn_toNat]; push_cast; rfl⟩

/-- What is known: 0, 1 or nothing. -/
def knw (n : Nat) (F : Nat → Bool) : Int := if cnt F (2 ^ n) = 0 then 0 else if cnt F (2 ^ n) = 2 ^ n then 1 else -1
theorem knw_same {n : Nat} {F : Nat → Bool} (h : ∀ j, j < 2 ^ n → F j = F 0) : knw n F = ((F 0).toNat : Int) := by
  unfold knw
  have hp := Nat.one_le_two_pow (n := n)
  cases h0 : F 0
  · rw [if_pos ((cnt_zero F _).2 fun j hj => by rw [h j hj, h0])]; rfl
  · have h1 := (cnt_all F (2 ^ n)).2 fun j hj => by rw [h j hj, h0]
    rw [if_neg (by omega), if_pos h1]; rfl
theorem knw_diff {n : Nat} {F : Nat → Bool} {k : Nat} (hk : k < 2 ^ n) (h : F k ≠ F 0) : knw n F = -1 := by
  unfold knw
  have hp := Nat.one_le_two_pow (n := n)
  rw [if_neg, if_neg]
  · intro e
    have := (cnt_all F _).1 e
    exact h (by rw [this k hk, this 0 (by omega)])
  · intro e
    have := (cnt_zero F _).1 e
    exact h (by rw [this k hk, this 0 (by omega)])

set_option maxHeartbeats 1000000 in
theorem sKnown0 {N : Int} {S : ByteArray} (w : World) (hS : S.size ≤ 1048576) (h : tokB N (tl S) = false) :
    Calls Tryz.prog 136 #[tv N S] w fun e w' => e = .returned (.int .i64 (-1)) ∧ Below w.heap.size w w' := by
  have HO : Hid (∀ W, Calls Tryz.prog 112 #[tv N S] W fun e w' => e = .returned (.bool false) ∧ Below W.heap.size W w') := fun W => sOk0 W hS h
  have HA : Hid (Below w.heap.size w (w.alloc (.cells #[.int .i64 N, .string S] 26))) := (Below.refl _ _).alloc (Nat.le_refl _) _
  clear h
  go_enter Tryz.func136, Tryz.ntmps136
  go_wp2_with fail
  refine (HO.out _).mono ?_
  rintro e w1 ⟨rfl, hb⟩
  have HB : Hid (Below w.heap.size w w1) := HA.out.trans (hb.mono HA.out.size)
  clear hb
  go_wp2
  go_ret
  exact ⟨rfl, HB.out⟩

set_option maxHeartbeats 1000000 in
theorem sKnown (n : Nat) (F : Nat → Bool) (w : World) (hn : n ≤ 12) :
    Calls Tryz.prog 136 #[tv (n : Int) (bs (tab n F))] w fun e w' => e = .returned (.int .i64 (knw n F)) ∧ Below w.heap.size w w' := by
  have HO : Hid (∀ W, Calls Tryz.prog 112 #[tv (n : Int) (bs (tab n F))] W fun e w' => e = .returned (.bool true) ∧ Below W.heap.size W w') := fun W => sOk1 n F W hn
  obtain ⟨hp, hl⟩ := p12 hn
  have HG : Hid (Sg (bs (tab n F)) (2 ^ n) F) := sg_tab n F
  have HKS : Hid ((∀ j, j < 2 ^ n → F j = F 0) → knw n F = ((F 0).toNat : Int)) := knw_same
  have HKD : Hid (∀ k, k < 2 ^ n → F k ≠ F 0 → knw n F = -1) := fun k => knw_diff
  generalize knw n F = KN at *
  generalize bs (tab n F) = S at *
  generalize 2 ^ n = P at *
  have hSP : S.size ≤ 4096 := by rw [HG.out.size]; exact hl
  have hS1 : 1 ≤ S.size := by rw [HG.out.size]; exact hp
  have hS0 : 0 < (S.size : Int) := by omega
  have hSn : 0 < S.size := by omega
  have hSe : ¬ S.size = 0 := by omega
  have h8 := HG.out.at_ 0 (by omega)
  have HL0 : Hid (Lay (w.alloc (.cells #[.int .i64 (n : Int), .string S] 26)) w.heap.size (.int .i64 (n : Int)) (.string S)) := Lay.made _ _ _ _
  have HA : Hid (Below w.heap.size w (w.alloc (.cells #[.int .i64 (n : Int), .string S] 26))) := (Below.refl _ _).alloc (Nat.le_refl _) _
  go_enter Tryz.func136, Tryz.ntmps136
  go_wp2_with fail
  refine (HO.out _).mono ?_
  rintro e w1 ⟨rfl, hb⟩
  have HB : Hid (Below w.heap.size w w1) := HA.out.trans (hb.mono HA.out.size)
  have HX : Hid (Lay w1 w.heap.size (.int .i64 (n : Int)) (.string S)) := HL0.out.below hb
  clear hb
  obtain ⟨x0, x1, _, _⟩ := HX.out
  go_wp2
  clear x0 x1
  go_loopw [3] (fun i wr => ∃ k : Nat, 1 ≤ k ∧ k ≤ S.size ∧ i = .int .i64 k ∧ (∀ j, j < k → F j = F 0) ∧ Lay wr w.heap.size (.int .i64 (n : Int)) (.string S) ∧ Below w.heap.size w wr) (fun i _ => S.size - (intOf i).toNat)
  case atStart => exact ⟨1, Nat.le_refl _, hS1, rfl, fun j hj => by rw [show j = 0 by omega], HX.out, HB.out⟩
  case round =>
    obtain ⟨k, hk1, hk, rfl, hE, hx, hb⟩ := hrel
    have HE : Hid (∀ j, j < k → F j = F 0) := hE
    have HXr : Hid (Lay wr w.heap.size (.int .i64 (n : Int)) (.string S)) := hx
    have HBr : Hid (Below w.heap.size w wr) := hb
    clear hE hb
    obtain ⟨x0, x1, _, _⟩ := hx
    by_cases hlt : k < S.size
    · have hkz : (k : Int) < (S.size : Int) := by omega
      have h9 := HG.out.at_ k hlt
      by_cases hF : F k = F 0
      · have hne : (((S[k].toNat : Nat) : Int) != ((S[0].toNat : Nat) : Int)) = false := by rw [h9, h8, hF]; simp
        have HF : Hid (F k = F 0) := hF
        clear hF h9 h8
        go_wp2_with fail
        go_quiet (fail)
        go_wp2
        go_roundw
        case rel => exact ⟨k + 1, by omega, by omega, by go_num, fun j hj => by
          by_cases e : j = k
          · rw [e]; exact HF.out
          · exact HE.out j (by omega), HXr.out.kept (S := fun _ => False) ((Kept.refl _ _).drewN _) (fun h => h), below_drewN HBr.out _⟩
        case measure => simp [intOf]; omega
      · have hne : (((S[k].toNat : Nat) : Int) != ((S[0].toNat : Nat) : Int)) = true := by
          rw [h9, h8]
          cases h1 : F k <;> cases h2 : F 0 <;> simp_all
        have HF : Hid (KN = -1) := HKD.out k (by rw [← HG.out.size]; exact hlt) hF
        clear hF h9 h8
        go_wp2_with fail
        go_quiet (fail)
        go_wp2
        go_ret
        exact ⟨ret_int HF.out.symm, below_drewN HBr.out _⟩
    · have HF : Hid (KN = ((F 0).toNat : Int)) := HKS.out fun j hj => HE.out j (by have := HG.out.size; omega)
      cases hF0 : F 0
      all_goals
        rw [hF0] at h8 HF
        clear hF0
        simp only [Bool.toNat_false, Bool.toNat_true, Int.natCast_zero, Int.natCast_one] at h8
        go_wp2
        go_ret
        exact ⟨ret_int (by rw [HF.out]; rfl), HBr.out⟩

end Go.Proofs.YtmfpbhjmnadpkaaGreatDoor.Td1

/- The model's functions over tables: not, both, half. -/
namespace Go.Proofs.YtmfpbhjmnadpkaaGreatDoor.Td2
open Go.RowKit
open Ta0 Ta1 Tc2 Tc5 Ap9 Td1
open Nd0 (Kept set_other set_same lt_of_cell)
open Ss0 (bs bs_size ret_str bs_ext)
open Ss1 (tl tl_length tl_get tl_take bs_tl tl_bs tl_inj eqb)
set_option linter.unusedVariables false

theorem _root_.Go.Proofs.YtmfpbhjmnadpkaaGreatDoor.Ap9.Owu.text {W : World} {B : Nat} {v : Value} {l : List UInt8} (h : Owu W B v l) (hl : 1 ≤ l.length) : (convert 22 9 v).run Tryz.prog W = .ok (.string (bs l)) W := by
  obtain ⟨a, c, rfl, hw⟩ := h.form
  rcases hw.2 with h0 | ⟨b, o, rfl, _, hc⟩
  · omega
  · exact run_convert_bytes_back (P := Tryz.prog) W 22 9 5 ⟨b, o, none⟩ c l Tryz.underlying22 Tryz.underlying5 Tryz.underlying9 (fun j hj => by rw [Addr.add_lit]; exact (hc j hj).1)

/-- The first k signs. -/
def tk (n : Nat) (G : Nat → Bool) (k : Nat) : List UInt8 := (tab n G).take k
theorem tk_zero (n : Nat) (G : Nat → Bool) : tk n G 0 = [] := rfl
theorem tk_len {n : Nat} {G : Nat → Bool} {k : Nat} (h : k ≤ 2 ^ n) : (tk n G k).length = k := by unfold tk; rw [List.length_take, tab_length]; omega
theorem tk_succ {n : Nat} {G : Nat → Bool} {k : Nat} (h : k < 2 ^ n) : tk n G (k + 1) = tk n G k ++ [sgn (G k)] := by
  unfold tk
  rw [List.take_succ_eq_append_getElem (by rw [tab_length]; exact h), tab_get]
theorem tk_all (n : Nat) (G : Nat → Bool) : tk n G (2 ^ n) = tab n G := by unfold tk; rw [List.take_of_length_le (by rw [tab_length]; omega)]

/-- What stands while a table is written. -/
structure OT (w : World) (B r : Nat) (N : Int) (S : ByteArray) (v : Value) (l : List UInt8) (W : World) : Prop where
  lay : Lay W B (.int .i64 N) (.string S)
  res : Lay W r (.int .i64 0) (.string ByteArray.empty)
  own : Owu W (r + 1) v l
  siz : r + 1 ≤ W.heap.size
  bel : Below w.heap.size w W
theorem OT.next {w W W' : World} {B r : Nat} {N : Int} {S : ByteArray} {v v' : Value} {l l' : List UInt8} (h : OT w B r N S v l W) (hB : B < r + 1) (hw : w.heap.size ≤ r) (hk : Kept (fun k => v.ownBlock = some k) W W') (ho : Owu W' (r + 1) v' l') : OT w B r N S v' l' W' :=
  ⟨h.lay.kept hk (fun e => by have := (h.own.lt _ e).1; omega), h.res.kept hk (fun e => by have := (h.own.lt _ e).1; omega), ho, by have := hk.size; have := h.siz; omega, h.bel.trans (hk.below (fun b hb => by have := (h.own.lt _ hb).1; omega) h.bel.size)⟩

theorem finT {w W : World} {r : Nat} {a b : Value} (hr : Lay W r a b) (hb : Below w.heap.size w W) (hw : w.heap.size ≤ r) (x y : Value) :
    ∃ W', W' = (W.setCell ⟨r, 0, none⟩ x).setCell ⟨r, 1, none⟩ y ∧ Lay W' r x y ∧ Below w.heap.size w W' := by
  have K : Kept (fun b => b = r) W ((W.setCell ⟨r, 0, none⟩ x).setCell ⟨r, 1, none⟩ y) := kset (S := fun b => b = r) (kset (S := fun b => b = r) (Kept.refl (fun b => b = r) W) rfl _) rfl _
  exact ⟨_, rfl, hr.put x y, hb.trans (K.below (fun b hb => by omega) hb.size)⟩

end Go.Proofs.YtmfpbhjmnadpkaaGreatDoor.Td2

/- Walks of the exact laws' helpers on single nodes. -/
namespace Go.Proofs.YtmfpbhjmnadpkaaGreatDoor.Nd1
open Go.RowKit
set_option linter.unusedVariables false

theorem ret_bool {a b : Bool} (h : a = b) : Ending.returned (.bool a) = .returned (.bool b) := by rw [h]

end Go.Proofs.YtmfpbhjmnadpkaaGreatDoor.Nd1

/- Walks of the exact laws' helpers on slices of nodes. -/
namespace Go.Proofs.YtmfpbhjmnadpkaaGreatDoor.Nd2
open Go.RowKit
open Nd0 Nd1
set_option linter.unusedVariables false

set_option maxHeartbeats 1000000 in
theorem eqIntS (w : World) (a a' : Option Addr) (l : List Int) (c c' : Nat) (h : Ints w a l) (h' : Ints w a' l) :
    Calls Tryz.prog 78 #[.slice a l.length c, .slice a' l.length c'] w fun e w' => e = .returned (.bool true) ∧ ∃ m, w' = w.drewN m := by
  have H : Hid (Ints w a l) := h
  have H' : Hid (Ints w a' l) := h'
  have hm := h.1
  unfold maxLen at hm
  clear h h'
  go_enter Tryz.func78, Tryz.ntmps78
  go_wp2
  go_loopw [5] (fun i wr => ∃ k : Nat, k ≤ l.length ∧ i = .int .i64 k ∧ ∃ m, wr = w.drewN m) (fun i _ => l.length - (intOf i).toNat)
  case atStart => exact ⟨0, Nat.zero_le _, rfl, 0, rfl⟩
  case round =>
    obtain ⟨k, hk, rfl, m, rfl⟩ := hrel
    by_cases hlt : k < l.length
    · have hlz : (k : Int) < (l.length : Int) := by omega
      rcases H.out.2 with h0 | ⟨xb, xo, rfl, hc⟩
      · omega
      rcases H'.out.2 with h0 | ⟨yb, yo, rfl, hc'⟩
      · omega
      have p0 := hc k hlt
      have q0 := hc' k hlt
      clear hc hc'
      generalize l[k] = x at p0 q0
      go_wp2
      go_quiet (fail)
      go_wp2
      go_roundw
      case rel => exact ⟨k + 1, by omega, by go_num, _, rfl⟩
      case measure => simp [intOf]; omega
    · go_wp2
      go_ret
      exact ⟨rfl, _, rfl⟩

end Go.Proofs.YtmfpbhjmnadpkaaGreatDoor.Nd2

/- Walks of the exact laws' helpers that write: marks put into lists, and looked for. -/
namespace Go.Proofs.YtmfpbhjmnadpkaaGreatDoor.Nd3
open Go.RowKit
open Nd0 Nd1
set_option linter.unusedVariables false

set_option maxHeartbeats 1000000 in
theorem markIntS (w : World) (B : Nat) (a : Option Addr) (l : List Int) (c : Nat) (h : WInts w B a l) (k0 : Int) (h0 : 0 ≤ k0) (h1 : k0 ≤ 100) (hl : l.length ≤ 1048576) :
    Calls Tryz.prog 81 #[.slice a l.length c, .int .i64 k0] w fun e w' => e = .returned (.int .i64 (k0 + l.length)) ∧ WInts w' B a (marks l.length k0) ∧ Kept (Ats l.length a) w w' := by
  have H : Hid (WInts w B a l) := h
  clear h
  generalize hn : l.length = n at hl ⊢
  go_enter Tryz.func81, Tryz.ntmps81
  go_wp2
  go_loopw [1, 5] (fun q i wr => ∃ k : Nat, k ≤ n ∧ i = .int .i64 k ∧ q = .int .i64 (k0 + k) ∧ Kept (Ats n a) w wr ∧ (n = 0 ∨ ∃ b o, a = some ⟨b, o, none⟩ ∧ B ≤ b ∧ ∀ j, j < n → ∃ v : Int, wr.cell? ⟨b, o + j, none⟩ = some (.int .i64 v) ∧ wr.frozen? ⟨b, o + j, none⟩ = false ∧ (j < k → v = k0 + j))) (fun _ i _ => n - (intOf i).toNat)
  case atStart =>
    refine ⟨0, Nat.zero_le _, rfl, by simp, Kept.refl _ _, ?_⟩
    rcases H.out.2 with e | ⟨b, o, ha, hB, hc⟩
    · exact .inl (by omega)
    · exact .inr ⟨b, o, ha, hB, fun j hj => ⟨l[j]'(by omega), (hc j (by omega)).1, (hc j (by omega)).2, fun x => by omega⟩⟩
  case round =>
    obtain ⟨k, hk, rfl, rfl, hb, hx⟩ := hrel
    by_cases hlt : k < n
    · have HK : Hid (Kept (Ats n a) w wr) := hb
      clear hb
      rcases hx with e | ⟨b, o, rfl, hB, hc⟩
      · omega
      have HC : Hid (∀ j, j < n → ∃ v : Int, wr.cell? ⟨b, o + j, none⟩ = some (.int .i64 v) ∧ wr.frozen? ⟨b, o + j, none⟩ = false ∧ (j < k → v = k0 + j)) := hc
      obtain ⟨v, p0, p1, _⟩ := hc k hlt
      clear hc
      have hlz : (k : Int) < (n : Int) := by omega
      go_wp2
      go_roundw
      case rel =>
        refine ⟨k + 1, by omega, by go_num, by go_num, HK.out.setCell (p := ⟨b, o + k, none⟩) ⟨by omega, _, rfl, rfl⟩ _, .inr ⟨b, o, rfl, hB, fun j hj => ?_⟩⟩
        obtain ⟨u, q0, q1, q2⟩ := HC.out j hj
        by_cases e : j = k
        · subst e
          exact ⟨_, set_same p0, by rw [World.frozen?_setCell]; exact p1, fun _ => rfl⟩
        · exact ⟨u, by rw [set_other (by simp <;> omega)]; exact q0, by rw [World.frozen?_setCell]; exact q1, fun x => q2 (by omega)⟩
      case measure => simp [intOf]; omega
    · go_wp2
      go_ret
      have e : k = n := by omega
      subst e
      refine ⟨rfl, ⟨by rw [marks_length]; have := H.out.1; omega, ?_⟩, hb⟩
      rcases hx with e | ⟨b, o, ha, hB, hc⟩
      · exact .inl (by rw [marks_length]; exact e)
      · refine .inr ⟨b, o, ha, hB, fun i hi => ?_⟩
        rw [marks_length] at hi
        obtain ⟨v, q0, q1, q2⟩ := hc i hi
        rw [marks_get, ← q2 hi]
        exact ⟨q0, q1⟩

set_option maxHeartbeats 1000000 in
theorem heldIntS (w : World) (a : Option Addr) (n : Nat) (c : Nat) (k0 : Int) (h : Ints w a (marks n k0)) (h0 : 0 ≤ k0) (h1 : k0 ≤ 100) (hl : n ≤ 1048576) :
    Calls Tryz.prog 84 #[.slice a n c, .int .i64 k0] w fun e w' => e = .returned (.int .i64 (k0 + n)) ∧ w' = w := by
  have H : Hid (Ints w a (marks n k0)) := h
  clear h
  go_enter Tryz.func84, Tryz.ntmps84
  go_wp2
  go_loop [1, 5] (fun q i => ∃ k : Nat, k ≤ n ∧ i = .int .i64 k ∧ q = .int .i64 (k0 + k)) (fun _ i => n - (intOf i).toNat)
  case atStart => exact ⟨0, Nat.zero_le _, rfl, by simp⟩
  case round =>
    obtain ⟨k, hk, rfl, rfl⟩ := hrel
    by_cases hlt : k < n
    · rcases H.out.2 with e | ⟨b, o, rfl, hc⟩
      · rw [marks_length] at e; omega
      have p0 := hc k (by rw [marks_length]; exact hlt)
      rw [marks_get] at p0
      clear hc
      have hlz : (k : Int) < (n : Int) := by omega
      go_wp2
      go_round
      case rel => exact ⟨k + 1, by omega, by go_num, by go_num⟩
      case measure => simp [intOf]; omega
    · go_wp2
      go_ret
      have e : k = n := by omega
      subst e
      exact ⟨rfl, rfl⟩

/-- Six marks from z on. -/
def mkN (z : Int) : Nd := ⟨z, z + 1, z + 1 + 1, z + 1 + 1 + 1, z + 1 + 1 + 1 + 1, z + 1 + 1 + 1 + 1 + 1⟩
/-- The nodes of marks from k0 on. -/
def markN (n : Nat) (k0 : Int) : List Nd := (List.range n).map fun (i : Nat) => (mkN (k0 + 6 * (i : Int)))
theorem markN_length (n : Nat) (k0 : Int) : (markN n k0).length = n := by simp [markN]
theorem markN_get (n : Nat) (k0 : Int) (i : Nat) (h : i < (markN n k0).length) : (markN n k0)[i] = (mkN (k0 + 6 * (i : Int))) := by simp [markN]

/-- A slice of the nodes l, in a block from B on, that may be written. -/
def WNodes (w : World) (B : Nat) (a : Option Addr) (l : List Nd) : Prop :=
  l.length ≤ maxLen ∧ (l.length = 0 ∨ ∃ b o, a = some ⟨b, o, none⟩ ∧ B ≤ b ∧ (∀ i (h : i < l.length), NodeAt w b (o + i * 6) l[i]) ∧ ∀ j, j < l.length * 6 → w.frozen? ⟨b, o + j, none⟩ = false)
theorem WNodes.nodes {w : World} {B : Nat} {a : Option Addr} {l : List Nd} (h : WNodes w B a l) : Nodes w a l := by
  refine ⟨h.1, ?_⟩
  rcases h.2 with h0 | ⟨b, o, ha, _, hc, _⟩
  · exact .inl h0
  · exact .inr ⟨b, o, ha, hc⟩

end Go.Proofs.YtmfpbhjmnadpkaaGreatDoor.Nd3
