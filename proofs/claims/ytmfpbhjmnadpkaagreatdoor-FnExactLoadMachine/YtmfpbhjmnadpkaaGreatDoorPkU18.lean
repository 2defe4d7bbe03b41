/- Small texts of mine, one behind the other. -/
import Derived.Deep.RegionHeld3
import Derived.Deep.CutBlock
import Derived.Deep.RegionWith
import Derived.Lib.Join
import Derived.Test.YtmfpbhjmnadpkaaGreatDoorPkU11
import Derived.Test.YtmfpbhjmnadpkaaGreatDoorPkU15
import Derived.Test.YtmfpbhjmnadpkaaGreatDoorPkU6
import Derived.Test.YtmfpbhjmnadpkaaGreatDoorPkU7
import Derived.Test.YtmfpbhjmnadpkaaGreatDoorPkU5
import Derived.Test.YtmfpbhjmnadpkaaGreatDoorZa1
import Derived.Test.YtmfpbhjmnadpkaaGreatDoorPkU12
import Derived.Test.YtmfpbhjmnadpkaaGreatDoorMm2
/- The program's functions over tables: half, at. -/
namespace Go.Proofs.YtmfpbhjmnadpkaaGreatDoor.Te3
open Go.RowKit
open Ta0 Ta1 Ta2 Tc2 Tc4 Tc5 Tc6 Tc7 Tc8 Tc10 Td1 Td2 Te1
open Nd0 (Kept Ints set_other set_same lt_of_cell)
open Ss0 (bs bs_size ret_str bs_ext)
open Ss1 (tl tl_length tl_get tl_take bs_tl tl_bs tl_inj eqb)
set_option linter.unusedVariables false

theorem or_bit {y x : Nat} (hy : y < 100000) (hx : x ≤ 1) : bits .or .i64 ((2 * y : Nat) : Int) (x : Int) = ((2 * y + x : Nat) : Int) := by
  rw [bor62 (by omega) (by omega)]
  have h := Nat.two_pow_add_eq_or_of_lt (i := 1) (b := x) (by omega) y
  rw [show (2 : Nat) ^ 1 * y = 2 * y by omega] at h
  rw [h]

set_option maxHeartbeats 2000000 in
theorem iPlaceOf (a : Option Addr) (l : List Int) (c : Nat) (w : World) (hl : l.length ≤ 12) (hI : Ints w a l) :
    Calls Tryz.prog 114 #[.slice a l.length c] w fun e w' => (((∀ i, i < l.length → bitB (l.getD i 0) = true) ∧ e = .returned (.tuple #[.int .i64 ((plc l l.length : Nat) : Int), .bool true])) ∨ ((∃ i, i < l.length ∧ bitB (l.getD i 0) = false) ∧ e = .returned (.tuple #[.int .i64 0, .bool false]))) ∧ w' = w := by
  have HI1 : Hid (Ints w a l) := hI
  clear hI
  go_enter Tryz.func114, Tryz.ntmps114
  go_wp2
  go_loop [4, 9] (fun p i => ∃ k : Nat, k ≤ l.length ∧ i = .int .i64 k ∧ p = .int .i64 ((plc l k : Nat) : Int) ∧ ∀ j, j < k → bitB (l.getD j 0) = true) (fun _ i => l.length - (intOf i).toNat)
  case atStart => exact ⟨0, Nat.zero_le _, rfl, rfl, fun j hj => by omega⟩
  case round =>
    obtain ⟨k, hk, rfl, rfl, hbt⟩ := hrel
    have hpl : plc l k < 4096 + 1 := by
      have h1 := plc_lt hbt
      have h2 := (p12 (n := k) (by omega)).2
      omega
    have HBT : Hid (∀ j, j < k → bitB (l.getD j 0) = true) := hbt
    clear hbt
    by_cases hlt : k < l.length
    · have hkz : (k : Int) < (l.length : Int) := by omega
      rcases HI1.out.2 with h0 | ⟨xb, xo, rfl, hc⟩
      · omega
      have p0 := hc k hlt
      clear hc
      have hgd : l.getD k 0 = l[k] := by simp [List.getD, hlt]
      have HPS : Hid (plc l (k + 1) = 2 * plc l k + (l.getD k 0).toNat) := rfl
      generalize plc l k = y at *
      rw [← hgd] at p0
      clear hgd
      obtain ⟨x, hx⟩ : ∃ x, x = l.getD k 0 := ⟨_, rfl⟩
      rw [← hx] at p0 HPS
      have HX : Hid (x = l.getD k 0) := hx
      clear hx
      have HIC : Hid (∀ W, Calls Tryz.prog 113 #[.int .i64 x] W fun e w' => e = .returned (.bool (bitB x)) ∧ w' = W) := fun W => iBitOk x W
      cases hB : bitB x
      · have HBd : Hid (∃ i, i < l.length ∧ bitB (l.getD i 0) = false) := ⟨k, hlt, by rw [← HX.out]; exact hB⟩
        rw [hB] at HIC
        clear hB
        go_wp2_with (go_at_call 113; refine (HIC.out _).mono ?_; rintro e w' ⟨rfl, rfl⟩)
        go_ret2
        exact ⟨.inr ⟨HBd.out, rfl⟩, rfl⟩
      · have hx2 := of_decide_eq_true hB
        rw [hB] at HIC
        have HBx : Hid (bitB x = true) := hB
        clear hB
        obtain ⟨b, rfl, hb⟩ : ∃ b : Nat, x = (b : Int) ∧ b ≤ 1 := ⟨x.toNat, by omega, by omega⟩
        clear hx2
        obtain ⟨z, hz⟩ : ∃ z : Nat, z = 2 * y + b := ⟨_, rfl⟩
        have ho := or_bit (y := y) (x := b) (by omega) hb
        rw [← hz] at ho
        have ho2 : bits .or .i64 (2 * (y : Int)) (b : Int) = (z : Int) := by rw [← ho]; push_cast; rfl
        have ho3 : bits .or .i64 ((y : Int) * 2) (b : Int) = (z : Int) := by rw [Int.mul_comm]; exact ho2
        have HZ : Hid (z = 2 * y + b) := hz
        clear hz ho
        go_wp2_with (go_at_call 113; refine (HIC.out _).mono ?_; rintro e w' ⟨rfl, rfl⟩)
        go_round
        case rel => exact ⟨k + 1, by omega, by go_num, by rw [HPS.out, Int.toNat_natCast, ← HZ.out], fun j hj => by
          by_cases e : j = k
          · rw [e, ← HX.out]; exact HBx.out
          · exact HBT.out j (by omega)⟩
        case measure => simp [intOf]; omega
    · have HK : Hid (k = l.length) := by show _ = _; omega
      go_wp2
      go_ret2
      exact ⟨.inl ⟨fun i hi => HBT.out i (by omega), by rw [HK.out]; rfl⟩, rfl⟩

end Go.Proofs.YtmfpbhjmnadpkaaGreatDoor.Te3

/- Values: whether they are bits (as in Mi2, without the machine). -/
namespace Go.Proofs.YtmfpbhjmnadpkaaGreatDoor.Vo0
open Go.RowKit
open Ta0 Ta1 Ta2 Tc2 Te1
open Nd0 (Kept Ints set_other set_same lt_of_cell)
set_option linter.unusedVariables false

/-- Whether all are bits. -/
def allB (l : List Int) : Bool := l.all bitB
theorem allB_no {l : List Int} {k : Nat} (h : k < l.length) (hb : bitB l[k] = false) : allB l = false := by
  unfold allB
  rw [List.all_eq_false]
  exact ⟨_, List.getElem_mem h, by rw [hb]; simp⟩
set_option maxHeartbeats 2000000 in
theorem iPlaceAny (a : Option Addr) (l : List Int) (c : Nat) (w : World) (hI : Ints w a l) :
    Calls Tryz.prog 114 #[.slice a l.length c] w fun e w' => (∃ p : Int, e = .returned (.tuple #[.int .i64 p, .bool (allB l)])) ∧ w' = w := by
  have HI1 : Hid (Ints w a l) := hI
  have hm := hI.1
  unfold maxLen at hm
  clear hI
  go_enter Tryz.func114, Tryz.ntmps114
  go_wp2
  go_loop [4, 9] (fun p i => ∃ (k : Nat) (y : Int), k ≤ l.length ∧ i = .int .i64 k ∧ p = .int .i64 y ∧ ∀ j (hj : j < l.length), j < k → bitB l[j] = true) (fun _ i => l.length - (intOf i).toNat)
  case atStart => exact ⟨0, 0, Nat.zero_le _, rfl, rfl, fun j _ hj => by omega⟩
  case round =>
    obtain ⟨k, y, hk, rfl, rfl, hbt⟩ := hrel
    have HBT : Hid (∀ j (hj : j < l.length), j < k → bitB l[j] = true) := hbt
    clear hbt
    by_cases hlt : k < l.length
    · have hkz : (k : Int) < (l.length : Int) := by omega
      rcases HI1.out.2 with h0 | ⟨xb, xo, rfl, hc⟩
      · omega
      have p0 := hc k hlt
      clear hc
      have HN : Hid (bitB l[k] = false → allB l = false) := allB_no hlt
      have HY : Hid (bitB l[k] = true → ∀ j (hj : j < l.length), j < k + 1 → bitB l[j] = true) := fun h j hj h2 => by
        by_cases e : j = k
        · subst e; exact h
        · exact HBT.out j hj (by omega)
      generalize l[k] = x at *
      have HIC : Hid (∀ W, Calls Tryz.prog 113 #[.int .i64 x] W fun e w' => e = .returned (.bool (bitB x)) ∧ w' = W) := fun W => iBitOk x W
      cases hB : bitB x
      · have HBd : Hid (allB l = false) := HN.out hB
        rw [hB] at HIC
        clear hB
        go_wp2_with (go_at_call 113; refine (HIC.out _).mono ?_; rintro e w' ⟨rfl, rfl⟩)
        go_ret2
        exact ⟨⟨0, by rw [HBd.out]; rfl⟩, rfl⟩
      · have HT := HY.out hB
        have HT2 : Hid (∀ j (hj : j < l.length), j < k + 1 → bitB l[j] = true) := HT
        rw [hB] at HIC
        clear hB HT
        go_wp2_with (go_at_call 113; refine (HIC.out _).mono ?_; rintro e w' ⟨rfl, rfl⟩)
        go_round
        case rel => exact ⟨k + 1, _, by omega, by go_num, rfl, HT2.out⟩
        case measure => simp [intOf]; omega
    · have HT : Hid (allB l = true) := by
        show _ = _
        unfold allB
        rw [List.all_eq_true]
        intro x hx
        obtain ⟨t, ht, rfl⟩ := List.getElem_of_mem hx
        exact HBT.out t ht (by omega)
      go_wp2
      go_ret2
      exact ⟨⟨y, by rw [HT.out]; rfl⟩, rfl⟩

/-- At most n bits. -/
def valB (l : List Int) (n : Int) : Bool := allB l && decide ((l.length : Int) ≤ n)
set_option maxHeartbeats 2000000 in
theorem iVals (a : Option Addr) (l : List Int) (c : Nat) (n : Int) (w : World) (hI : Ints w a l) :
    Calls Tryz.prog 51 #[.slice a l.length c, .int .i64 n] w fun e w' => e = .returned (.bool (valB l n)) ∧ w' = w := by
  have HI1 : Hid (Ints w a l) := hI
  clear hI
  cases hA : allB l
  · have HF : Hid (valB l n = false) := by show _ = _; unfold valB; rw [hA]; rfl
    go_enter Tryz.func51, Tryz.ntmps51
    go_wp2_with fail
    refine (iPlaceAny a l c _ HI1.out).mono ?_
    rw [hA]
    rintro e w2 ⟨⟨p, rfl⟩, rfl⟩
    clear hA
    go_wp2
    go_ret
    exact ⟨ret_bool HF.out.symm, rfl⟩
  · by_cases hn : (l.length : Int) ≤ n
    · have HF : Hid (valB l n = true) := by show _ = _; unfold valB; rw [hA, decide_eq_true hn]; rfl
      have hnb : decide ((l.length : Int) ≤ n) = true := decide_eq_true hn
      go_enter Tryz.func51, Tryz.ntmps51
      go_wp2_with fail
      refine (iPlaceAny a l c _ HI1.out).mono ?_
      rw [hA]
      rintro e w2 ⟨⟨p, rfl⟩, rfl⟩
      clear hA
      go_wp2
      go_ret
      exact ⟨ret_bool HF.out.symm, rfl⟩
    · have HF : Hid (valB l n = false) := by show _ = _; unfold valB; rw [decide_eq_false hn]; simp
      have hnb : decide ((l.length : Int) ≤ n) = false := decide_eq_false hn
      go_enter Tryz.func51, Tryz.ntmps51
      go_wp2_with fail
      refine (iPlaceAny a l c _ HI1.out).mono ?_
      rw [hA]
      rintro e w2 ⟨⟨p, rfl⟩, rfl⟩
      clear hA
      go_wp2
      go_ret
      exact ⟨ret_bool HF.out.symm, rfl⟩

end Go.Proofs.YtmfpbhjmnadpkaaGreatDoor.Vo0

/- A pick by value; the laws' small functions over one pick. -/
namespace Go.Proofs.YtmfpbhjmnadpkaaGreatDoor.Wp0
open Go.RowKit
open Nd0 (Kept Ints WInts IntsIn Ats marks marks_length lt_of_cell)
open Nd6 (toIntS eqIntB markIntB heldIntB)
open Tc5 (Lay)
set_option linter.unusedVariables false

/-- A pick's value. -/
abbrev pv (a : Option Addr) (n c : Nat) (v : Int) : Value := .agg #[.slice a n c, .int .i64 v]
/-- It lies in a block. -/
structure Pb (W : World) (b : Nat) (a : Option Addr) (n c : Nat) (v : Int) : Prop where
  c0 : W.cell? ⟨b, 0, none⟩ = some (.slice a n c)
  c1 : W.cell? ⟨b, 1, none⟩ = some (.int .i64 v)
theorem Pb.lt {W : World} {b : Nat} {a : Option Addr} {n c : Nat} {v : Int} (h : Pb W b a n c v) : b < W.heap.size := lt_of_cell h.c0
theorem Pb.kept {W W' : World} {b : Nat} {a : Option Addr} {n c : Nat} {v : Int} (h : Pb W b a n c v) {S : Nat → Prop} (k : Kept S W W') (hs : ¬ S b) : Pb W' b a n c v :=
  ⟨by rw [k.cell (p := ⟨b, 0, none⟩) h.lt hs]; exact h.c0, by rw [k.cell (p := ⟨b, 1, none⟩) h.lt hs]; exact h.c1⟩
theorem Pb.below {W W' : World} {b : Nat} {a : Option Addr} {n c : Nat} {v : Int} (h : Pb W b a n c v) (k : Below W.heap.size W W') : Pb W' b a n c v := h.kept (S := fun _ => False) (Kept.ofBelow k) (fun h => h)
theorem Pb.made (W : World) (a : Option Addr) (n c : Nat) (v : Int) (T : Nat) : Pb (W.alloc (.cells #[.slice a n c, .int .i64 v] T)) W.heap.size a n c v := ⟨by simp, by simp⟩

set_option maxHeartbeats 400000 in
theorem szIntS (w : World) (a : Option Addr) (n c : Nat) (left : Int) (h0 : 0 ≤ left) (h1 : left ≤ 1048576) (hn : n ≤ maxLen) :
    Calls Tryz.prog 70 #[.slice a n c, .int .i64 left] w fun e w' => e = .returned (.int .i64 (if (n : Int) ≤ left then left - n else -1)) ∧ w' = w := by
  unfold maxLen at hn
  by_cases hc : (n : Int) ≤ left
  · go_enter Tryz.func70, Tryz.ntmps70
    go_wp2
    go_ret
    exact ⟨rfl, rfl⟩
  · go_enter Tryz.func70, Tryz.ntmps70
    go_wp2
    go_ret
    exact ⟨rfl, rfl⟩
end Go.Proofs.YtmfpbhjmnadpkaaGreatDoor.Wp0

/- The text of a pick as plain data; the program's valsText. -/
namespace Go.Proofs.YtmfpbhjmnadpkaaGreatDoor.Wp1
open Go.RowKit
open Ta2 (bitB)
open Vo0 (allB valB iVals)
open Ap9
open Nd0 (Kept Ints lt_of_cell)
open Ss0 (bs bs_size bs_app ret_str)
set_option linter.unusedVariables false

def dgt (b : Int) : UInt8 := if b = 1 then 49 else 48
def vt (l : List Int) : List UInt8 := if l = [] then [45] else l.map dgt
def pkB (l : List Int) (v : Int) : Bool := valB l 12 && bitB v
def pkT (l : List Int) (v : Int) : ByteArray := if pkB l v = true then bs (vt l ++ [32] ++ [dgt v]) else ⟨#[]⟩
theorem bit_two {b : Int} (h : bitB b = true) : b = 0 ∨ b = 1 := by unfold bitB at h; simpa using h
theorem dgt_bit {b : Int} (h : bitB b = true) : ((dgt b).toNat : Int) = 48 + b := by
  rcases bit_two h with rfl | rfl <;> rfl
theorem vt_len (l : List Int) : 1 ≤ (vt l).length ∧ (vt l).length ≤ l.length + 1 := by
  unfold vt
  split
  · exact ⟨Nat.le_refl _, by simp⟩
  · rename_i h
    rw [List.length_map]
    have := List.length_pos_iff.2 h
    omega

set_option maxRecDepth 100000 in
set_option maxHeartbeats 2000000 in
theorem iValsText (w : World) (a : Option Addr) (l : List Int) (c : Nat) (h : Ints w a l) (hl : l.length ≤ 12) (hb : ∀ b ∈ l, bitB b = true) :
    Calls Tryz.prog 175 #[.slice a l.length c] w fun e w' => e = .returned (.string (bs (vt l))) ∧ Below w.heap.size w w' := by
  have H : Hid (Ints w a l) := h
  have HBT : Hid (∀ b ∈ l, bitB b = true) := hb
  clear h hb
  by_cases h0 : l = []
  · subst h0
    go_enter Tryz.func175, Tryz.ntmps175
    go_wp2
    go_ret
    exact ⟨rfl, Below.refl _ _⟩
  have hlp := List.length_pos_iff.2 h0
  have HV : Hid (vt l = l.map dgt) := by show _ = _; unfold vt; exact if_neg h0
  obtain ⟨n, hn⟩ : ∃ n, n = l.length := ⟨_, rfl⟩
  rw [← hn]
  have hn0 : ((n : Int) == 0) = false := beq_eq_false_iff_ne.2 (by omega)
  have hn1 : ¬ n = 0 := by omega
  have hn2 : n ≤ 12 := by omega
  have HN : Hid (n = l.length) := hn
  obtain ⟨TK, hTK⟩ : ∃ TK : Nat → List UInt8, TK = fun k => (l.take k).map dgt := ⟨_, rfl⟩
  have HTK : Hid (TK = fun k => (l.take k).map dgt) := hTK
  have HTL : Hid (∀ k, k ≤ n → (TK k).length = k) := by intro k hk; rw [hTK]; simp; omega
  have HT0 : Hid (TK 0 = []) := by show _ = _; rw [hTK]; rfl
  clear hn h0 hl hlp hTK
  go_enter Tryz.func175, Tryz.ntmps175
  go_wp2
  go_loopw [3, 12] (fun v i wr => ∃ k : Nat, k ≤ n ∧ i = .int .i64 k ∧ Owu wr w.heap.size v (TK k) ∧ Below w.heap.size w wr) (fun _ i _ => n - (intOf i).toNat)
  case atStart => exact ⟨0, Nat.zero_le _, rfl, by rw [HT0.out]; exact Owu.lit _ _ (Nat.le_refl _), (Below.refl _ _).alloc (Nat.le_refl _) _⟩
  case round =>
    obtain ⟨k, hk, rfl, ho, hbr⟩ := hrel
    have HO : Hid (Owu wr w.heap.size u3 (TK k)) := ho
    have HB : Hid (Below w.heap.size w wr) := hbr
    clear ho hbr
    by_cases hlt : k < n
    · have hlz : (k : Int) < (n : Int) := by omega
      have hkl : k < l.length := by have := HN.out; omega
      obtain ⟨b, o, ha, hc⟩ : ∃ b o, a = some ⟨b, o, none⟩ ∧ wr.cell? ⟨b, o + k, none⟩ = some (.int .i64 l[k]) := by
        rcases (H.out.below HB.out).2 with e | ⟨b, o, e, hc⟩
        · omega
        · exact ⟨b, o, e, hc k hkl⟩
      subst ha
      have hbl := lt_of_cell hc
      have HBK : Hid (bitB l[k] = true) := HBT.out _ (List.getElem_mem hkl)
      have HNX : Hid (TK (k + 1) = TK k ++ [dgt l[k]]) := by
        show _ = _
        rw [HTK.out]
        show (l.take (k + 1)).map dgt = (l.take k).map dgt ++ [dgt l[k]]
        rw [List.take_succ_eq_append_getElem hkl, List.map_append]
        rfl
      generalize l[k] = x at *
      have hx : 0 ≤ x ∧ x ≤ 1 := by rcases bit_two HBK.out with e | e <;> omega
      have HD : Hid (((dgt x).toNat : Int) = 48 + x) := dgt_bit HBK.out
      have hw8 : IntKind.u8.wrap x = x := by rcases bit_two HBK.out with e | e <;> subst e <;> rfl
      have hw9 : IntKind.u8.wrap (48 + x) = 48 + x := by rcases bit_two HBK.out with e | e <;> subst e <;> rfl
      go_wp2_with (at_builtin; go_must (refine app_byte _ rfl _ _ rfl w.heap.size u3 (TK k) (dgt x) _ (by exact HD.out.symm) rfl rfl HO.out HB.out.size (by rw [HTL.out k (by omega)]; omega) ?_; intro g5 cp5 w5 ho5 hk5 hg5; have HO5 : Hid (Owu w5 w.heap.size (.slice (some ⟨g5, 0, none⟩) ((TK k).length + 1) cp5) (TK k ++ [dgt x])) := ho5; have HK5 : Hid (Kept (fun i => u3.ownBlock = some i) wr w5) := hk5; clear ho5 hk5 hg5))
      go_roundw
      case rel => exact ⟨k + 1, by omega, by go_num, by rw [HNX.out]; exact HO5.out, HB.out.trans (HK5.out.below (fun i hi => (HO.out.lt i hi).1) HB.out.size)⟩
      case measure => simp [intOf]; omega
    · have hlz : ¬ (k : Int) < (n : Int) := by omega
      have e : k = n := by omega
      subst e
      have hT : TK k = vt l := by
        rw [HV.out, HTK.out, HN.out]
        show (l.take l.length).map dgt = _
        rw [List.take_length]
      have ho := HO.out
      rw [hT] at ho
      have hcv := ho.text (vt_len l).1
      clear hT ho
      obtain ⟨R, hR⟩ : ∃ R, R = bs (vt l) := ⟨_, rfl⟩
      rw [← hR] at hcv
      have HR : Hid (R = bs (vt l)) := hR
      clear hR
      go_wp2
      go_ret
      exact ⟨ret_str HR.out, HB.out⟩

theorem made1 (W : World) (v : Int) (T : Nat) : (W.alloc (.cells #[.int .i64 v] T)).cell? ⟨W.heap.size, 0, none⟩ = some (.int .i64 v) := by rw [World.cell?_alloc_new]; rfl
end Go.Proofs.YtmfpbhjmnadpkaaGreatDoor.Wp1

/- A machine as a text: plain. -/
namespace Go.Proofs.YtmfpbhjmnadpkaaGreatDoor.Zs0
open Go.RowKit
open Tx0 Ta1 Za0
open Mm0 (Mc Mok)
open Mm2 (mokB)
open Qc0 (Sn)
open Wp1 (vt vt_len)
open Ss0 (bs bs_size)
open Ss1 (tl tl_length)
open Tk0 (keyL itoa_dec)
set_option linter.unusedVariables false

/-- The words of the lines. -/
def wd : Nat → List UInt8
  | 0 => [114, 111, 119]
  | 1 => [116, 97, 98, 108, 101]
  | 2 => [114, 111, 111, 109]
  | 3 => [118, 97, 108, 115]
  | 4 => [114, 101, 116]
  | 5 => [111, 118, 101, 114]
  | 6 => [99, 111, 117, 110, 116, 115]
  | _ => [115, 101, 101, 110]
def bI (b : Bool) : Int := if b = true then 1 else 0
/-- What stands behind the word of line i. -/
def bod (m : Mc) : Nat → List UInt8
  | 0 => rowT m.row
  | 1 => keyL m.N.toNat (tl m.S)
  | 2 => Lib.itoa m.room
  | 3 => vt m.vals
  | 4 => Lib.itoa m.ret
  | 5 => Lib.itoa (bI m.over)
  | 6 => Lib.itoa m.steps ++ (32 :: (Lib.itoa m.looks ++ (32 :: Lib.itoa m.hits)))
  | k + 7 => match m.memo[k]? with
    | some x => tl x.k ++ (32 :: Lib.itoa x.r)
    | none => []
def lin (m : Mc) (i : Nat) : List UInt8 := wd i ++ (32 :: (bod m i ++ [10]))
def linTo (m : Mc) (k : Nat) : List (List UInt8) := (List.range k).map (lin m)
def savT (m : Mc) : List UInt8 := (linTo m (7 + m.memo.length)).flatten
theorem linTo_length (m : Mc) (k : Nat) : (linTo m k).length = k := by unfold linTo; simp
theorem linTo_next (m : Mc) (k : Nat) : linTo m (k + 1) = linTo m k ++ [lin m k] := by unfold linTo; rw [List.range_succ, List.map_append]; rfl
/-- Whether a key can be written. -/
def plB (s : List UInt8) : Bool := decide (s ≠ [] ∧ ∀ c ∈ s, isDig c = true ∨ c = 58)
def keysB (m : Mc) : Bool := m.memo.all fun x => plB (tl x.k)
/-- Whether a machine has a text. -/
noncomputable def svB (m : Mc) : Bool := mokB m && (keysB m && decide ((savT m).length ≤ 400000))
noncomputable def svS (m : Mc) : ByteArray := if svB m = true then bs (savT m) else ⟨#[]⟩
theorem wd_len (i : Nat) : (wd i).length ≤ 6 := by
  unfold wd
  split <;> decide
theorem itoa_neg : Lib.itoa (-1) = [45, 49] := by decide +kernel
theorem itoa_len {n : Int} (h0 : -1 ≤ n) (h1 : n ≤ 1000000000) : (Lib.itoa n).length ≤ 10 := by
  by_cases h : n = -1
  · subst h; rw [itoa_neg]; decide
  · obtain ⟨k, rfl⟩ := Int.eq_ofNat_of_zero_le (by omega : 0 ≤ n)
    rw [itoa_dec]
    exact (Zk0.dec_len' (k := 10) (by omega) (by omega)).2
theorem bI_two (b : Bool) : bI b = 0 ∨ bI b = 1 := by cases b; exact .inl rfl; exact .inr rfl
theorem bod_len {m : Mc} (h : Mok m) (hk : ∀ x ∈ m.memo, x.k.size ≤ 1048576) (i : Nat) : (bod m i).length ≤ 1048600 := by
  obtain ⟨n, F, hn, hN, hS⟩ := tok_tab h.tab
  have hrow := h.row
  have hv := h.vals
  match i with
  | 0 => show (rowT m.row).length ≤ _; have := rowT_le m.row; omega
  | 1 =>
    show (keyL m.N.toNat (tl m.S)).length ≤ _
    rw [hN, hS, Int.toNat_natCast]
    unfold keyL
    rw [List.length_append, List.length_cons, tab_length]
    have := Zk0.dec_two hn
    have := (p12 hn).2
    omega
  | 2 => show (Lib.itoa m.room).length ≤ _; have := itoa_len (n := m.room) (by have := h.room; omega) (by have := h.room; omega); omega
  | 3 => show (vt m.vals).length ≤ _; have := vt_len m.vals; omega
  | 4 => show (Lib.itoa m.ret).length ≤ _; have := itoa_len (n := m.ret) h.ret.1 (by have := h.ret; omega); omega
  | 5 => show (Lib.itoa (bI m.over)).length ≤ _; have := itoa_len (n := bI m.over) (by rcases bI_two m.over with e | e <;> omega) (by rcases bI_two m.over with e | e <;> omega); omega
  | 6 =>
    show (Lib.itoa m.steps ++ (32 :: (Lib.itoa m.looks ++ (32 :: Lib.itoa m.hits)))).length ≤ _
    rw [List.length_append, List.length_cons, List.length_append, List.length_cons]
    have := itoa_len (n := m.steps) (by have := h.steps; omega) h.steps.2
    have := itoa_len (n := m.looks) (by have := h.looks; omega) h.looks.2
    have := itoa_len (n := m.hits) (by have := h.hits; omega) h.hits.2
    omega
  | k + 7 =>
    show (match m.memo[k]? with
      | some x => tl x.k ++ (32 :: Lib.itoa x.r)
      | none => []).length ≤ _
    cases hx : m.memo[k]? with
    | none => simp
    | some x =>
      have hm := List.mem_of_getElem? hx
      show (tl x.k ++ (32 :: Lib.itoa x.r)).length ≤ _
      rw [List.length_append, List.length_cons, tl_length]
      have := hk x hm
      have := itoa_len (n := x.r) (by have := h.seen x hm; omega) (by have := h.seen x hm; omega)
      omega
theorem lin_len {m : Mc} (h : Mok m) (hk : ∀ x ∈ m.memo, x.k.size ≤ 1048576) (i : Nat) : (lin m i).length ≤ 1048700 := by
  unfold lin
  rw [List.length_append, List.length_cons, List.length_append]
  have := wd_len i
  have := bod_len h hk i
  simp
  omega
theorem linTo_flat {m : Mc} (h : Mok m) (hk : ∀ x ∈ m.memo, x.k.size ≤ 1048576) (k : Nat) : (linTo m k).flatten.length ≤ k * 1048700 := by
  induction k with
  | zero => simp [linTo]
  | succ k ih =>
    rw [linTo_next, List.flatten_append, List.length_append]
    have := lin_len h hk k
    rw [List.flatten_cons, List.flatten_nil, List.append_nil]
    omega
theorem join_none (L : List (List UInt8)) : Lib.join L [] = L.flatten := by
  cases L with
  | nil => rfl
  | cons x r =>
    rw [Lib.join_cons]
    unfold Lib.joinTail
    rw [show (fun y : List UInt8 => ([] : List UInt8) ++ y) = id from rfl, List.map_id]
    rfl
end Go.Proofs.YtmfpbhjmnadpkaaGreatDoor.Zs0
