/- Small texts of mine, one behind the other. -/
import Derived.Test.YtmjmnfegaoegjaaGreatDoorRows
import Derived.Deep.AppendLies
import Derived.OwnWalk
import Derived.Laws.IdiomStrings
import Derived.WalkKit
import Derived.Deep.QuietTactic
import Derived.BigQuiet
import Derived.WalkSpells
import Derived.WalkLawsBesides
import Derived.Test.YtmjmnfegaoegjaaGreatDoorPkLD0
import Derived.Test.YtmjmnfegaoegjaaGreatDoorPkLD1
/- Lists of bytes that are appended to and written: the law at the walk, and how they are read. -/
namespace Go.Proofs.YtmjmnfegaoegjaaGreatDoor.Ap9
open Go.RowKit
open Nd0
set_option linter.unusedVariables false

def WBys (w : World) (B : Nat) (a : Option Addr) (l : List UInt8) : Prop :=
  l.length ≤ maxLen ∧ (l.length = 0 ∨ ∃ b o, a = some ⟨b, o, none⟩ ∧ B ≤ b ∧ ∀ i (h : i < l.length), w.cell? ⟨b, o + i, none⟩ = some (.int .u8 (l[i].toNat : Int)) ∧ w.frozen? ⟨b, o + i, none⟩ = false)

theorem infoByte : (Tryz.prog.info? 5).map (fun i => (i.zero, i.size, i.bytes)) = some (some (.int .u8 0), 1, 1) := by kernel_rfl

def Owu (w : World) (B : Nat) (v : Value) (l : List UInt8) : Prop := w.ownsRow B 5 1 v l.length (l.map fun x => .int .u8 (x.toNat : Int))

theorem Owu.form {w : World} {B : Nat} {v : Value} {l : List UInt8} (h : Owu w B v l) : ∃ a c, v = .slice a l.length c ∧ WBys w B a l := by
  obtain ⟨h1, h2⟩ := h
  rcases h2 with ⟨rfl, h0⟩ | ⟨g, cap, cur, rfl, hb, hg, hn, hm, hs, ht⟩
  · have : l = [] := List.eq_nil_of_length_eq_zero h0
    subst this
    exact ⟨none, 0, rfl, Nat.zero_le _, .inl rfl⟩
  · refine ⟨_, _, rfl, by omega, .inr ⟨g, 0, rfl, hb, fun i hi => ⟨?_, ?_⟩⟩⟩
    · rw [Nat.zero_add, cell_of_row w g i cur _ _ hg]
      have e : (cur.toList.take (l.length * 1))[i]? = some (.int .u8 (l[i].toNat : Int)) := by rw [ht]; simp [hi]
      rw [List.getElem?_take_of_lt (by omega)] at e
      simpa using e
    · rw [Nat.zero_add]
      simp [World.frozen?, hg]
theorem Owu.lit (w : World) (B : Nat) (hB : B ≤ w.heap.size) : Owu (w.alloc (.cells #[] 5)) B (.slice (some ⟨w.heap.size, 0, none⟩) 0 0) [] :=
  World.ownsRow_lit w #[] 0 hB (Nat.zero_le _) rfl
theorem Owu.lt {w : World} {B : Nat} {v : Value} {l : List UInt8} (h : Owu w B v l) : ∀ k, v.ownBlock = some k → B ≤ k ∧ k < w.heap.size := World.ownsRow.lt h
theorem Owu.kept {w w' : World} {B : Nat} {v : Value} {l : List UInt8} (h : Owu w B v l) {S : Nat → Prop} (k : Kept S w w') (hs : ∀ i, v.ownBlock = some i → ¬ S i) : Owu w' B v l := by
  refine ⟨h.1, ?_⟩
  rcases h.2 with hn | ⟨g, cap, cur, rfl, hb, hgg, rest⟩
  · exact .inl hn
  · refine .inr ⟨g, cap, cur, rfl, hb, ?_, rest⟩
    rw [k.block g (Array.getElem?_eq_some_iff.1 hgg).1 (hs g rfl)]
    exact hgg

theorem Owu.set {w : World} {B g cap : Nat} {l : List UInt8} (h : Owu w B (.slice (some ⟨g, 0, none⟩) l.length cap) l) (j : Nat) (x : UInt8) : Owu (w.setCell ⟨g, j, none⟩ (.int .u8 (x.toNat : Int))) B (.slice (some ⟨g, 0, none⟩) l.length cap) (l.set j x) := by
  have h1 := (World.ownsRow.stored h j (.int .u8 (x.toNat : Int))).1
  unfold Owu
  rw [List.map_set, List.length_set]
  exact h1
theorem Owu.cell {w : World} {B g cap : Nat} {l : List UInt8} (h : Owu w B (.slice (some ⟨g, 0, none⟩) l.length cap) l) (j : Nat) (hj : j < l.length) : w.cell? ⟨g, j, none⟩ = some (.int .u8 (l[j].toNat : Int)) ∧ w.frozen? ⟨g, j, none⟩ = false := by
  obtain ⟨a, c, hv, hw⟩ := h.form
  cases hv
  rcases hw.2 with h0 | ⟨b, o, hb, _, hc⟩
  · omega
  · cases hb
    have := hc j hj
    rw [Nat.zero_add] at this
    exact this

theorem Owu.set' {w : World} {B g cap n : Nat} {l : List UInt8} (h : Owu w B (.slice (some ⟨g, 0, none⟩) n cap) l) (hn : l.length = n) (j : Nat) (x : UInt8) : Owu (w.setCell ⟨g, j, none⟩ (.int .u8 (x.toNat : Int))) B (.slice (some ⟨g, 0, none⟩) n cap) (l.set j x) := by
  subst hn; exact h.set j x
theorem Owu.cell' {w : World} {B g cap n : Nat} {l : List UInt8} (h : Owu w B (.slice (some ⟨g, 0, none⟩) n cap) l) (hn : l.length = n) (j : Nat) (hj : j < n) : w.cell? ⟨g, j, none⟩ = some (.int .u8 ((l[j]'(by omega)).toNat : Int)) ∧ w.frozen? ⟨g, j, none⟩ = false := by
  subst hn; exact h.cell j hj
theorem Owu.at {w : World} {B : Nat} {v : Value} {l : List UInt8} (h : Owu w B v l) (hl : 1 ≤ l.length) : ∃ g c, v = .slice (some ⟨g, 0, none⟩) l.length c ∧ B ≤ g ∧ g < w.heap.size := by
  rcases h.2 with ⟨rfl, h0⟩ | ⟨g, cap, cur, rfl, hb, hg, _⟩
  · omega
  · exact ⟨g, cap, rfl, hb, (Array.getElem?_eq_some_iff.1 hg).1⟩

theorem app_byte {ops : Array Oper} {rest : List Oper} {o : Oper} {a : Act} {Q : Exit → Act → World → Prop} (W : World) (hgd : o.guard = none) (s x : Operand)
    (ho : o.op = .call { callee := .builtin .append, args := #[s, x], argTypes := #[22, 22] })
    (B : Nat) (v : Value) (l : List UInt8) (y : UInt8) (z : Int) (hz0 : z = (y.toNat : Int)) (hs : a.eval s = v) (hx : a.eval x = .slice (some ⟨W.heap.size, 0, none⟩) 1 1)
    (hown : Owu W B v l) (hB : B ≤ W.heap.size) (hlen : l.length ≤ 1048576)
    (h : ∀ g cap w', Owu w' B (.slice (some ⟨g, 0, none⟩) (l.length + 1) cap) (l ++ [y]) → Kept (fun k => v.ownBlock = some k) W w' → (v.ownBlock = some g ∨ W.heap.size ≤ g) → wpList Tryz.prog ops Q rest (a.put o.dst (.slice (some ⟨g, 0, none⟩) (l.length + 1) cap)) w') :
    wpList Tryz.prog ops Q (o :: rest) a (W.alloc (.cells #[.int .u8 z] 5)) := by
  subst hz0
  obtain ⟨i, hi, hzz⟩ := Option.map_eq_some_iff.1 infoByte
  simp only [Prod.mk.injEq] at hzz
  obtain ⟨hz, hsz, hb⟩ := hzz
  refine wpList_append_lies (W.alloc (.cells #[.int .u8 (y.toNat : Int)] 5)) hgd s x 22 ho B 5 i (.int .u8 0) 1 1 Tryz.underlying22 hi hz hsz hb rfl (by omega) v l.length (l.map fun x => .int .u8 (x.toNat : Int)) hs (World.ownsRow.alloc hown _)
    ⟨W.heap.size, 0, none⟩ 1 1 [.int .u8 (y.toNat : Int)] hx rfl ?_ ?_ (by omega) (by unfold maxLen; omega) (by omega) (by simp; omega) _ rfl ?_
  · intro j u hu
    exact World.news_of_block (heap_alloc_new W _) j u hu
  · intro u hu
    simp at hu
    subst hu
    rfl
  · intro g cap w' h1 h2 h3 h4
    refine h g cap w' ?_ ?_ ?_
    · unfold Owu
      simpa using h1
    · have k1 : Kept (fun k => v.ownBlock = some k) W (W.alloc (.cells #[.int .u8 (y.toNat : Int)] 5)) := (Kept.refl _ W).alloc _
      exact k1.trans ⟨h2.os, h2.tape, h2.output, h2.size, fun k hk hn => h2.block k hk (fun e => hn e.symm)⟩
    · rcases h3 with h3 | h3
      · exact .inl h3
      · exact .inr (by rw [h3]; simp)

end Go.Proofs.YtmjmnfegaoegjaaGreatDoor.Ap9

/- The model's functions over tables: count, known, not. -/
namespace Go.Proofs.YtmjmnfegaoegjaaGreatDoor.Td1
open Go.RowKit
open Ta0 Ta1 Tc2 Tc5 Ap9
open Nd0 (Kept set_other set_same lt_of_cell)
open Ss0 (bs bs_size ret_str)
open Ss1 (tl tl_length tl_get tl_take bs_tl tl_bs tl_inj eqb)
set_option linter.unusedVariables false

theorem sOk1 (n : Nat) (F : Nat → Bool) (w : World) (hn : n ≤ 12) :
    Calls Tryz.prog 87 #[tv (n : Int) (bs (tab n F))] w fun e w' => e = .returned (.bool true) ∧ Below w.heap.size w w' := by
  have := sTableOk (n : Int) (bs (tab n F)) w (by rw [bs_size, tab_length]; have := p12 hn; omega)
  rwa [tl_bs, tab_tok F hn] at this
theorem sOk0 {N : Int} {S : ByteArray} (w : World) (hS : S.size ≤ 1048576) (h : tokB N (tl S) = false) :
    Calls Tryz.prog 87 #[tv N S] w fun e w' => e = .returned (.bool false) ∧ Below w.heap.size w w' := by
  have := sTableOk N S w hS
  rwa [h] at this

structure Sg (S : ByteArray) (P : Nat) (F : Nat → Bool) : Prop where
  size : S.size = P
  at_ : ∀ k (h : k < S.size), (S[k].toNat : Int) = 48 + ((F k).toNat : Int)
theorem sg_tab (n : Nat) (F : Nat → Bool) : Sg (bs (tab n F)) (2 ^ n) F :=
  ⟨by rw [bs_size, tab_length], fun k h => by rw [bs_tab_get, sgn_toNat]; push_cast; rfl⟩

def knw (n : Nat) (F : Nat → Bool) : Int := if cnt F (2 ^ n) = 0 then 0 else if cnt F (2 ^ n) = 2 ^ n then 1 else -1
theorem knw_same {n : Nat} {F : Nat → Bool} (h : ∀ j, j < 2 ^ n → F j = F 0) : knw n F = ((F 0).toNat : Int) := by
  unfold knw
  have hp := Nat.one_le_two_pow (n := n)
  cases h0 : F 0
  · rw [if_pos ((cnt_zero F _).2 fun j hj => by rw [h j hj, h0])]; rfl
  · have h1 := (cnt_all F (2 ^ n)).2 fun j hj => by rw [h j hj, h0]
    rw [if_neg (by omega), if_pos h1]; rfl
theorem knw_diff {n : Nat} {F : Nat → Bool} {k : Nat} (hk : k < 2 ^ n) (h : F k ≠ F 0) : knw n F = -1 := by
  unfold knw
  have hp := Nat.one_le_two_pow (n := n)
  rw [if_neg, if_neg]
  · intro e
    have := (cnt_all F _).1 e
    exact h (by rw [this k hk, this 0 (by omega)])
  · intro e
    have := (cnt_zero F _).1 e
    exact h (by rw [this k hk, this 0 (by omega)])

set_option maxHeartbeats 1000000 in
theorem sKnown (n : Nat) (F : Nat → Bool) (w : World) (hn : n ≤ 12) :
    Calls Tryz.prog 107 #[tv (n : Int) (bs (tab n F))] w fun e w' => e = .returned (.int .i64 (knw n F)) ∧ Below w.heap.size w w' := by
  have HO : Hid (∀ W, Calls Tryz.prog 87 #[tv (n : Int) (bs (tab n F))] W fun e w' => e = .returned (.bool true) ∧ Below W.heap.size W w') := fun W => sOk1 n F W hn
  obtain ⟨hp, hl⟩ := p12 hn
  have HG : Hid (Sg (bs (tab n F)) (2 ^ n) F) := sg_tab n F
  have HKS : Hid ((∀ j, j < 2 ^ n → F j = F 0) → knw n F = ((F 0).toNat : Int)) := knw_same
  have HKD : Hid (∀ k, k < 2 ^ n → F k ≠ F 0 → knw n F = -1) := fun k => knw_diff
  generalize knw n F = KN at *
  generalize bs (tab n F) = S at *
  generalize 2 ^ n = P at *
  have hSP : S.size ≤ 4096 := by rw [HG.out.size]; exact hl
  have hS1 : 1 ≤ S.size := by rw [HG.out.size]; exact hp
  have hS0 : 0 < (S.size : Int) := by omega
  have hSn : 0 < S.size := by omega
  have hSe : ¬ S.size = 0 := by omega
  have h8 := HG.out.at_ 0 (by omega)
  have HL0 : Hid (Lay (w.alloc (.cells #[.int .i64 (n : Int), .string S] 26)) w.heap.size (.int .i64 (n : Int)) (.string S)) := Lay.made _ _ _ _
  have HA : Hid (Below w.heap.size w (w.alloc (.cells #[.int .i64 (n : Int), .string S] 26))) := (Below.refl _ _).alloc (Nat.le_refl _) _
  go_enter Tryz.func107, Tryz.ntmps107
  go_wp2_with fail
  refine (HO.out _).mono ?_
  rintro e w1 ⟨rfl, hb⟩
  have HB : Hid (Below w.heap.size w w1) := HA.out.trans (hb.mono HA.out.size)
  have HX : Hid (Lay w1 w.heap.size (.int .i64 (n : Int)) (.string S)) := HL0.out.below hb
  clear hb
  obtain ⟨x0, x1, _, _⟩ := HX.out
  go_wp2
  clear x0 x1
  go_loopw [3] (fun i wr => ∃ k : Nat, 1 ≤ k ∧ k ≤ S.size ∧ i = .int .i64 k ∧ (∀ j, j < k → F j = F 0) ∧ Lay wr w.heap.size (.int .i64 (n : Int)) (.string S) ∧ Below w.heap.size w wr) (fun i _ => S.size - (intOf i).toNat)
  case atStart => exact ⟨1, Nat.le_refl _, hS1, rfl, fun j hj => by rw [show j = 0 by omega], HX.out, HB.out⟩
  case round =>
    obtain ⟨k, hk1, hk, rfl, hE, hx, hb⟩ := hrel
    have HE : Hid (∀ j, j < k → F j = F 0) := hE
    have HXr : Hid (Lay wr w.heap.size (.int .i64 (n : Int)) (.string S)) := hx
    have HBr : Hid (Below w.heap.size w wr) := hb
    clear hE hb
    obtain ⟨x0, x1, _, _⟩ := hx
    by_cases hlt : k < S.size
    · have hkz : (k : Int) < (S.size : Int) := by omega
      have h9 := HG.out.at_ k hlt
      by_cases hF : F k = F 0
      · have hne : (((S[k].toNat : Nat) : Int) != ((S[0].toNat : Nat) : Int)) = false := by rw [h9, h8, hF]; simp
        have HF : Hid (F k = F 0) := hF
        clear hF h9 h8
        go_wp2_with fail
        go_quiet (fail)
        go_wp2
        go_roundw
        case rel => exact ⟨k + 1, by omega, by omega, by go_num, fun j hj => by
          by_cases e : j = k
          · rw [e]; exact HF.out
          · exact HE.out j (by omega), HXr.out.kept (S := fun _ => False) ((Kept.refl _ _).drewN _) (fun h => h), below_drewN HBr.out _⟩
        case measure => simp [intOf]; omega
      · have hne : (((S[k].toNat : Nat) : Int) != ((S[0].toNat : Nat) : Int)) = true := by
          rw [h9, h8]
          cases h1 : F k <;> cases h2 : F 0 <;> simp_all
        have HF : Hid (KN = -1) := HKD.out k (by rw [← HG.out.size]; exact hlt) hF
        clear hF h9 h8
        go_wp2_with fail
        go_quiet (fail)
        go_wp2
        go_ret
        exact ⟨ret_int HF.out.symm, below_drewN HBr.out _⟩
    · have HF : Hid (KN = ((F 0).toNat : Int)) := HKS.out fun j hj => HE.out j (by have := HG.out.size; omega)
      cases hF0 : F 0
      all_goals
        rw [hF0] at h8 HF
        clear hF0
        simp only [Bool.toNat_false, Bool.toNat_true, Int.natCast_zero, Int.natCast_one] at h8
        go_wp2
        go_ret
        exact ⟨ret_int (by rw [HF.out]; rfl), HBr.out⟩

end Go.Proofs.YtmjmnfegaoegjaaGreatDoor.Td1

/- The model's functions over tables: not, both, half. -/
namespace Go.Proofs.YtmjmnfegaoegjaaGreatDoor.Td2
open Go.RowKit
open Ta0 Ta1 Tc2 Tc5 Ap9 Td1
open Nd0 (Kept set_other set_same lt_of_cell)
open Ss0 (bs bs_size ret_str bs_ext)
open Ss1 (tl tl_length tl_get tl_take bs_tl tl_bs tl_inj eqb)
set_option linter.unusedVariables false

theorem _root_.Go.Proofs.YtmjmnfegaoegjaaGreatDoor.Ap9.Owu.text {W : World} {B : Nat} {v : Value} {l : List UInt8} (h : Owu W B v l) (hl : 1 ≤ l.length) : (convert 22 9 v).run Tryz.prog W = .ok (.string (bs l)) W := by
  obtain ⟨a, c, rfl, hw⟩ := h.form
  rcases hw.2 with h0 | ⟨b, o, rfl, _, hc⟩
  · omega
  · exact run_convert_bytes_back (P := Tryz.prog) W 22 9 5 ⟨b, o, none⟩ c l Tryz.underlying22 Tryz.underlying5 Tryz.underlying9 (fun j hj => by rw [Addr.add_lit]; exact (hc j hj).1)

theorem finT {w W : World} {r : Nat} {a b : Value} (hr : Lay W r a b) (hb : Below w.heap.size w W) (hw : w.heap.size ≤ r) (x y : Value) :
    ∃ W', W' = (W.setCell ⟨r, 0, none⟩ x).setCell ⟨r, 1, none⟩ y ∧ Lay W' r x y ∧ Below w.heap.size w W' := by
  have K : Kept (fun b => b = r) W ((W.setCell ⟨r, 0, none⟩ x).setCell ⟨r, 1, none⟩ y) := kset (S := fun b => b = r) (kset (S := fun b => b = r) (Kept.refl (fun b => b = r) W) rfl _) rfl _
  exact ⟨_, rfl, hr.put x y, hb.trans (K.below (fun b hb => by omega) hb.size)⟩

end Go.Proofs.YtmjmnfegaoegjaaGreatDoor.Td2

/- Plain notions for walks that keep a cursor in one block: what turns, what stays. -/
namespace Go.Proofs.YtmjmnfegaoegjaaGreatDoor.Dr0
open Go.RowKit

structure Only (b : Nat) (w w' : World) : Prop where
  os : w'.os = w.os
  tape : w'.tape = w.tape
  output : w'.output = w.output
  size : w.heap.size ≤ w'.heap.size
  block : ∀ k, k < w.heap.size → k ≠ b → w'.heap[k]? = w.heap[k]?

theorem Only.refl (b : Nat) (w : World) : Only b w w := ⟨rfl, rfl, rfl, Nat.le_refl _, fun _ _ _ => rfl⟩
theorem Only.trans {b : Nat} {u v w : World} (h : Only b u v) (k : Only b v w) : Only b u w :=
  ⟨k.os.trans h.os, k.tape.trans h.tape, k.output.trans h.output, Nat.le_trans h.size k.size, fun i hi hb => (k.block i (Nat.lt_of_lt_of_le hi h.size) hb).trans (h.block i hi hb)⟩
theorem Only.drew {b : Nat} {u w : World} (h : Only b u w) : Only b u w.drew := ⟨h.os, h.tape, h.output, h.size, h.block⟩
theorem Only.drewN {b : Nat} {u w : World} (h : Only b u w) (n : Nat) : Only b u (w.drewN n) := ⟨h.os, h.tape, h.output, h.size, h.block⟩
theorem Only.alloc {b : Nat} {u w : World} (h : Only b u w) (o : Obj) : Only b u (w.alloc o) :=
  h.trans ⟨rfl, rfl, rfl, by simp, fun k hk _ => Below.heap_alloc _ _ _ hk⟩
theorem Only.setCell {b : Nat} {u w : World} (h : Only b u w) {p : Addr} (hp : p.block = b) (x : Value) : Only b u (w.setCell p x) :=
  h.trans ⟨rfl, rfl, rfl, by simp [World.setCell], fun k _ hk => Below.heap_setCell _ _ _ _ (by omega)⟩
theorem Only.cell {b : Nat} {w w' : World} (h : Only b w w') {p : Addr} (hp : p.block < w.heap.size) (hb : p.block ≠ b) : w'.cell? p = w.cell? p :=
  World.cell?_of_block (w := w) (h.block p.block hp hb)
theorem Only.below {b B : Nat} {w w' : World} (h : Only b w w') (hB : B ≤ b) (hs : B ≤ w.heap.size) : Below B w w' :=
  ⟨h.os, h.tape, h.output, h.size, fun k hk => h.block k (by omega) (by omega)⟩

theorem lt_of_cell {w : World} {p : Addr} {v : Value} (h : w.cell? p = some v) : p.block < w.heap.size := by
  have : ∃ o, w.heap[p.block]? = some o := by
    unfold World.cell? at h
    cases e : w.heap[p.block]? with
    | none => simp [e] at h
    | some o => exact ⟨o, rfl⟩
  obtain ⟨o, ho⟩ := this
  obtain ⟨hl, _⟩ := Array.getElem?_eq_some_iff.1 ho
  exact hl

def Bytes (w : World) (a : Option Addr) (len : Nat) : Prop :=
  len ≤ maxLen ∧ (len = 0 ∨ ∃ xb xo, a = some ⟨xb, xo, none⟩ ∧ ∀ i, i < len → ∃ v : Int, 0 ≤ v ∧ v ≤ 255 ∧ w.cell? ⟨xb, xo + i, none⟩ = some (.int .u8 v))

def Off (a : Option Addr) (len b : Nat) : Prop := len = 0 ∨ ∀ x, a = some x → x.block ≠ b

theorem Bytes.only {b : Nat} {w w' : World} {a : Option Addr} {len : Nat} (h : Bytes w a len) (ho : Off a len b) (k : Only b w w') : Bytes w' a len := by
  refine ⟨h.1, ?_⟩
  rcases h.2 with h0 | ⟨xb, xo, rfl, hc⟩
  · exact .inl h0
  · rcases ho with h0 | ho
    · exact .inl h0
    · refine .inr ⟨xb, xo, rfl, fun i hi => ?_⟩
      obtain ⟨v, h1, h2, h3⟩ := hc i hi
      exact ⟨v, h1, h2, by rw [k.cell (lt_of_cell h3) (ho ⟨xb, xo, none⟩ rfl)]; exact h3⟩
theorem Bytes.below {w w' : World} {a : Option Addr} {len : Nat} (h : Bytes w a len) (k : Below w.heap.size w w') : Bytes w' a len := by
  refine ⟨h.1, ?_⟩
  rcases h.2 with h0 | ⟨xb, xo, rfl, hc⟩
  · exact .inl h0
  · refine .inr ⟨xb, xo, rfl, fun i hi => ?_⟩
    obtain ⟨v, h1, h2, h3⟩ := hc i hi
    exact ⟨v, h1, h2, by rw [k.cell (lt_of_cell h3)]; exact h3⟩

structure Cur (w : World) (b : Nat) (a : Option Addr) (len cap : Nat) : Prop where
  c0 : w.cell? ⟨b, 0, none⟩ = some (.slice a len cap)
  c1 : ∃ i : Nat, i ≤ len ∧ w.cell? ⟨b, 1, none⟩ = some (.int .i64 i)
  c2 : ∃ h : Int, w.cell? ⟨b, 2, none⟩ = some (.int .i64 h)
  f1 : w.frozen? ⟨b, 1, none⟩ = false
  f2 : w.frozen? ⟨b, 2, none⟩ = false
  bytes : Bytes w a len
  off : Off a len b

theorem set_other {w : World} {p q : Addr} {v : Value} (h : p ≠ q) : (w.setCell p v).cell? q = w.cell? q := by apply World.cell?_setCell_other; exact h
theorem set_same {w : World} {p : Addr} {u v : Value} (h : w.cell? p = some u) : (w.setCell p v).cell? p = some v := by apply World.cell?_setCell_same; exact h
theorem Cur.drewN {w : World} {b : Nat} {a : Option Addr} {len cap : Nat} (h : Cur w b a len cap) (n : Nat) : Cur (w.drewN n) b a len cap :=
  ⟨h.c0, h.c1, h.c2, h.f1, h.f2, h.bytes.only h.off ((Only.refl b w).drewN n), h.off⟩
theorem Cur.drew {w : World} {b : Nat} {a : Option Addr} {len cap : Nat} (h : Cur w b a len cap) : Cur w.drew b a len cap :=
  ⟨h.c0, h.c1, h.c2, h.f1, h.f2, h.bytes.only h.off (Only.refl b w).drew, h.off⟩
theorem Cur.setH {w : World} {b : Nat} {a : Option Addr} {len cap : Nat} (h : Cur w b a len cap) (x : Int) : Cur (w.setCell ⟨b, 2, none⟩ (.int .i64 x)) b a len cap := by
  obtain ⟨i, hi, h1⟩ := h.c1
  obtain ⟨y, h2⟩ := h.c2
  refine ⟨?_, ⟨i, hi, ?_⟩, ⟨x, ?_⟩, ?_, ?_, h.bytes.only h.off ((Only.refl b w).setCell rfl _), h.off⟩
  · rw [set_other (by simp)]; exact h.c0
  · rw [set_other (by simp)]; exact h1
  · exact set_same h2
  · rw [World.frozen?_setCell]; exact h.f1
  · rw [World.frozen?_setCell]; exact h.f2
theorem Cur.setI {w : World} {b : Nat} {a : Option Addr} {len cap : Nat} (h : Cur w b a len cap) (i : Nat) (hi : i < len) : Cur (w.setCell ⟨b, 1, none⟩ (.int .i64 ((i : Int) + 1))) b a len cap := by
  obtain ⟨j, hj, h1⟩ := h.c1
  obtain ⟨y, h2⟩ := h.c2
  refine ⟨?_, ⟨i + 1, by omega, ?_⟩, ⟨y, ?_⟩, ?_, ?_, h.bytes.only h.off ((Only.refl b w).setCell rfl _), h.off⟩
  · rw [set_other (by simp)]; exact h.c0
  · rw [set_same h1]; simp
  · rw [set_other (by simp)]; exact h2
  · rw [World.frozen?_setCell]; exact h.f1
  · rw [World.frozen?_setCell]; exact h.f2
theorem Cur.lt {w : World} {b : Nat} {a : Option Addr} {len cap : Nat} (h : Cur w b a len cap) : b < w.heap.size := lt_of_cell (p := ⟨b, 0, none⟩) h.c0
theorem Cur.alloc {w : World} {b : Nat} {a : Option Addr} {len cap : Nat} (h : Cur w b a len cap) (o : Obj) : Cur (w.alloc o) b a len cap := by
  have k : Below w.heap.size w (w.alloc o) := (Below.refl _ w).alloc (Nat.le_refl _) o
  have hb := h.lt
  obtain ⟨i, hi, h1⟩ := h.c1
  obtain ⟨y, h2⟩ := h.c2
  exact ⟨by rw [k.cell hb]; exact h.c0, ⟨i, hi, by rw [k.cell hb]; exact h1⟩, ⟨y, by rw [k.cell hb]; exact h2⟩, by rw [k.frozen hb]; exact h.f1, by rw [k.frozen hb]; exact h.f2, h.bytes.below k, h.off⟩

theorem Bytes.offNew {w : World} {a : Option Addr} {len : Nat} (h : Bytes w a len) (b : Nat) (hb : w.heap.size ≤ b) : Off a len b := by
  by_cases h0 : len = 0
  · exact .inl h0
  · rcases h.2 with h1 | ⟨xb, xo, rfl, hc⟩
    · exact .inl h1
    · refine .inr fun x hx => ?_
      obtain ⟨v, _, _, hv⟩ := hc 0 (by omega)
      have := lt_of_cell hv
      simp at hx this
      subst hx
      simp
      omega
theorem Cur.made {w : World} {a : Option Addr} {len cap : Nat} (h : Bytes w a len) (x : Int) (T : Nat) : Cur (w.alloc (.cells #[.slice a len cap, .int .i64 0, .int .i64 x] T)) w.heap.size a len cap := by
  refine ⟨by simp, ⟨0, Nat.zero_le _, by simp⟩, ⟨x, by simp⟩, by simp, by simp, h.below ((Below.refl _ w).alloc (Nat.le_refl _) _), h.offNew _ (Nat.le_refl _)⟩

theorem bytes_of {w : World} {x : Addr} {len cap : Nat} {z : List Int} (hl : len ≤ cap) (hm : cap ≤ maxLen) (hz : z.length = cap) (hcell : ∀ i, i < z.length → w.cell? (x.add i) = some (.int .u8 (z.getD i 0))) (hwz : ∀ n ∈ z, (Lit.int .u8 n).wf = true) : Bytes w (some x) len := by
  refine ⟨by omega, ?_⟩
  by_cases h0 : len = 0
  · exact .inl h0
  · obtain ⟨xb, xo, spot⟩ := x
    have hc := hcell 0 (by omega)
    have hspot : spot = none := by simpa [Addr.add] using World.cell?_spot hc
    subst hspot
    refine .inr ⟨xb, xo, rfl, fun i hi => ⟨z.getD i 0, ?_⟩⟩
    have hi2 : i < z.length := by omega
    have eg : z.getD i 0 = z[i] := by simp [List.getD, hi2]
    have hw := hwz (z.getD i 0) (by rw [eg]; exact List.getElem_mem _)
    have hk := hcell i hi2
    rw [Addr.add_lit] at hk
    generalize z.getD i 0 = v at hw hk ⊢
    simp [Lit.wf, IntKind.min, IntKind.max, IntKind.signed, IntKind.bits] at hw
    exact ⟨by omega, by omega, hk⟩

theorem and255 (x : Int) : 0 ≤ bits .and .i64 x 255 ∧ bits .and .i64 x 255 ≤ 255 := by
  have e : bits .and .i64 x 255 = IntKind.i64.wrap ((BitVec.ofInt 64 x &&& BitVec.ofInt 64 255).toNat : Int) := rfl
  have h : (BitVec.ofInt 64 x &&& BitVec.ofInt 64 255).toNat ≤ 255 := by
    rw [BitVec.toNat_and]; exact Nat.and_le_right
  rw [e, IntKind.wrap_i64]
  omega
end Go.Proofs.YtmjmnfegaoegjaaGreatDoor.Dr0

/- Walks of the draws' cursor: one byte, a number below n, a pick out of a short list. -/
namespace Go.Proofs.YtmjmnfegaoegjaaGreatDoor.Dr1
open Go.RowKit
open Dr0
set_option linter.unusedVariables false

set_option maxHeartbeats 1000000 in
theorem byte (w : World) (b : Nat) (a : Option Addr) (len cap : Nat) (hc : Cur w b a len cap) :
    Calls Tryz.prog 65 #[.pointer (some ⟨b, 0, none⟩)] w fun e w' => (∃ x : Int, e = .returned (.int .i64 x) ∧ 0 ≤ x ∧ x ≤ 255) ∧ Cur w' b a len cap ∧ Only b w w' := by
  have HC : Hid (Cur w b a len cap) := hc
  obtain ⟨c0, ⟨i, hi, c1⟩, ⟨h, c2⟩, f1, f2, hb, ho⟩ := hc
  by_cases hlt : i < len
  · rcases hb.2 with h0 | ⟨xb, xo, rfl, hcell⟩
    · omega
    have hne : xb ≠ b := by
      rcases ho with h0 | ho
      · omega
      · exact ho ⟨xb, xo, none⟩ rfl
    obtain ⟨v, hv0, hv1, hv⟩ := hcell i hlt
    have hlz : (i : Int) < (len : Int) := by omega
    have hm := hb.1
    unfold maxLen at hm
    go_enter Tryz.func65, Tryz.ntmps65
    go_wp2
    generalize wrap64 (wrap64 (h * 6364136223846793005) + 1442695040888963407) = h1
    go_quiet (fail)
    go_wp2
    generalize bits BinOp.xor IntKind.i64 (h1 / 8589934592) (h1 / 35184372088832) = h2
    have hx := and255 h2
    generalize bits BinOp.and IntKind.i64 h2 255 = x at hx ⊢
    go_quiet (fail)
    go_wp2
    go_quiet (fail)
    go_wp2
    go_ret
    exact ⟨⟨_, rfl, (and255 _).1, (and255 _).2⟩, ((HC.out.setH h1).drewN _).setI i hlt, (((Only.refl b w).setCell rfl _).drewN _).setCell rfl _⟩
  · have hlz : ¬ (i : Int) < (len : Int) := by omega
    go_enter Tryz.func65, Tryz.ntmps65
    go_wp2
    generalize wrap64 (wrap64 (h * 6364136223846793005) + 1442695040888963407) = h1
    go_quiet (fail)
    go_wp2
    generalize bits BinOp.xor IntKind.i64 (h1 / 8589934592) (h1 / 35184372088832) = h2
    go_quiet (fail)
    go_wp2
    go_ret
    exact ⟨⟨_, rfl, (and255 _).1, (and255 _).2⟩, ((HC.out.setH h1).drewN _).drewN _, (((Only.refl b w).setCell rfl _).drewN _).drewN _⟩

set_option maxHeartbeats 1000000 in
theorem below (w : World) (b : Nat) (a : Option Addr) (len cap : Nat) (n : Int) (h0 : 1 ≤ n) (h1 : n ≤ 256) (hc : Cur w b a len cap) :
    Calls Tryz.prog 25 #[.pointer (some ⟨b, 0, none⟩), .int .i64 n] w fun e w' => (∃ x : Int, e = .returned (.int .i64 x) ∧ 0 ≤ x ∧ x < n) ∧ Cur w' b a len cap ∧ Only b w w' := by
  have HC : Hid (Cur w b a len cap) := hc
  clear hc
  go_enter Tryz.func25, Tryz.ntmps25
  go_wp2_with fail
  refine (byte _ b a len cap HC.out).mono ?_
  rintro e w' ⟨⟨x, rfl, hx0, hx1⟩, hc', ho'⟩
  have HC' : Hid (Cur w' b a len cap) := hc'
  have HO' : Hid (Only b w w') := ho'
  clear hc' ho'
  go_wp2
  go_ret
  exact ⟨⟨_, rfl, Int.emod_nonneg _ (by omega), Int.emod_lt_of_pos _ (by omega)⟩, HC'.out, HO'.out⟩

set_option maxHeartbeats 1000000 in
theorem once (w : World) (b : Nat) (a : Option Addr) (len cap : Nat) (n : Int) (h0 : 1 ≤ n) (h1 : n ≤ 256) (hc : Cur w b a len cap) :
    Calls Tryz.prog 99 #[.pointer (some ⟨b, 0, none⟩), .int .i64 n] w fun e w' => (∃ x : Bool, e = .returned (.bool x)) ∧ Cur w' b a len cap ∧ Only b w w' := by
  have HC : Hid (Cur w b a len cap) := hc
  clear hc
  go_enter Tryz.func99, Tryz.ntmps99
  go_wp2_with fail
  refine (below _ b a len cap n h0 h1 HC.out).mono ?_
  rintro e w' ⟨⟨x, rfl, hx0, hx1⟩, hc', ho'⟩
  have HC' : Hid (Cur w' b a len cap) := hc'
  have HO' : Hid (Only b w w') := ho'
  clear hc' ho'
  go_wp2
  go_ret
  exact ⟨⟨_, rfl⟩, HC'.out, HO'.out⟩

end Go.Proofs.YtmjmnfegaoegjaaGreatDoor.Dr1
