/- The law of tables put together. -/
import Derived.Lib.QuietBelow
import Derived.BigQuiet
import Derived.Deep.CutBlock
import Derived.Deep.CutRange
import Derived.Test.YtkcbonocbdfbcaaDoorTdu
import Derived.Test.YtkcbonocbdfbcaaDoorTa4
import Derived.Test.YtkcbonocbdfbcaaDoorTe2
import Derived.Test.YtkcbonocbdfbcaaDoorTd3
import Derived.Test.YtkcbonocbdfbcaaDoorLh1
namespace Go.Proofs.YtkcbonocbdfbcaaDoor.Ll1
open Go.RowKit
open Go.Sort (grow)
open Ta0 Ta1 Ta4 Tc2 Tc5 Td1 Td2 Td3 Te1 Te2 Tk0 Tdu
open Nd0 (Kept)
open Dr0 (Bytes)
open Lh1 (lbig tok_str cu cu_tab)
open Ss0 (bs bs_size)
open Ss1 (tl bs_tl tl_bs)
set_option linter.unusedVariables false

/-- Tables lie in boxes. -/
def LB (w : World) (W : World) (l : List (Nat × Int × ByteArray)) : Prop := Below w.heap.size w W ∧ ∀ x ∈ l, Lay W x.1 (.int .i64 x.2.1) (.string x.2.2)
theorem LB.below {w W W' : World} {l : List (Nat × Int × ByteArray)} (h : LB w W l) (k : Below W.heap.size W W') : LB w W' l := ⟨h.1.trans (k.mono h.1.size), fun x hx => (h.2 x hx).below k⟩
theorem LB.box {w W : World} {l : List (Nat × Int × ByteArray)} (h : LB w W l) (N : Int) (S : ByteArray) : LB w (W.alloc (.cells #[.int .i64 N, .string S] 25)) ((W.heap.size, N, S) :: l) := by
  refine ⟨h.1.alloc h.1.size _, fun x hx => ?_⟩
  rcases List.mem_cons.1 hx with rfl | hx
  · exact Lay.made _ _ _ _
  · exact (h.2 x hx).alloc _
theorem LB.at_ {w W : World} {l : List (Nat × Int × ByteArray)} (h : LB w W l) {q : Nat} {N : Int} {S : ByteArray} (hm : (q, N, S) ∈ l) : Lay W q (.int .i64 N) (.string S) := h.2 _ hm
theorem LB.put {w W : World} {l : List (Nat × Int × ByteArray)} (h : LB w W l) {z : Nat} {a b : Value} (hL : Lay W z a b) (hz : ∀ x ∈ l, x.1 < z) (hw : w.heap.size ≤ z) (N : Int) (S : ByteArray) : LB w ((W.setCell ⟨z, 0, none⟩ (.int .i64 N)).setCell ⟨z, 1, none⟩ (.string S)) ((z, N, S) :: l) := by
  have K : Kept (fun b => b = z) W ((W.setCell ⟨z, 0, none⟩ (.int .i64 N)).setCell ⟨z, 1, none⟩ (.string S)) := kset (S := fun b => b = z) (kset (S := fun b => b = z) (Kept.refl (fun b => b = z) W) rfl _) rfl _
  refine ⟨h.1.trans (K.below (fun b hb => by omega) h.1.size), fun x hx => ?_⟩
  rcases List.mem_cons.1 hx with rfl | hx
  · exact hL.put _ _
  · exact (h.2 x hx).kept K (fun e => by have := hz x hx; omega)
theorem LB.drew {w W : World} {l : List (Nat × Int × ByteArray)} (h : LB w W l) : LB w W.drew l := h.below (below_drewN (Below.refl _ _) 1)
theorem LB.lt {w W : World} {l : List (Nat × Int × ByteArray)} (h : LB w W l) : ∀ x ∈ l, x.1 < W.heap.size := fun x hx => (h.2 x hx).lt
theorem madeD (W : World) (x y : Value) (T : Nat) : Lay (W.alloc (.cells #[x, y] T)).drew W.heap.size x y := (Lay.made W x y T).kept (S := fun _ => False) (Kept.refl _ _).drew (fun h => h)

set_option maxRecDepth 100000 in
set_option maxHeartbeats 40000000 in
theorem lawLogic (w : World) (hT : TabK w) (a : Option Addr) (len cap : Nat) (hb : Bytes w a len) :
    Calls Tryd.prog 4 #[.slice a len cap] w fun e w' => e = .returned (.bool true) ∧ Below w.heap.size w w' := by
  have HBy : Hid (Bytes w a len) := hb
  have HTK : Hid (TabK w) := hT
  clear hb hT
  by_cases hs : 1048576 < len
  · go_enter Tryd.func4, Tryd.ntmps4
    go_wp2_with fail
    refine (lbig _ a len cap true (by simp; omega)).mono ?_
    rintro e w' ⟨rfl, rfl⟩
    go_wp2
    go_ret
    exact ⟨rfl, Below.refl _ _⟩
  have hsl : len ≤ 1048576 := by omega
  go_enter Tryd.func4, Tryd.ntmps4
  go_wp2_with fail
  refine (lbig _ a len cap false (by simp; omega)).mono ?_
  rintro e w0 ⟨rfl, hw0⟩
  have hw0' := hw0.symm
  clear hw0
  subst hw0'
  go_wp2_with fail
  refine (drawTableAnd _ a len cap HBy.out).mono ?_
  rintro e w1 ⟨⟨N, M, S, T, rfl, hS, hT⟩, hb1⟩
  have HA1 : Hid (Below w.heap.size w w1) := hb1
  clear hb1
  have hSz : S.size ≤ 1048576 := by omega
  have hTz : T.size ≤ 1048576 := by omega
  have HB0 : Hid (LB w ((w1.alloc (.cells #[.int .i64 N, .string S] 25)).alloc (.cells #[.int .i64 M, .string T] 25)) [(w1.heap.size + 1, M, T), (w1.heap.size, N, S)]) := by
    have h0 : LB w w1 [] := ⟨HA1.out, fun x hx => by cases hx⟩
    have h := (h0.box N S).box M T
    show LB _ _ _
    simpa using h
  by_cases hcan : tokB N (tl S) = true ∧ tokB M (tl T) = true ∧ N = M
  rotate_left
  · skip
    have HC1 : Hid (∀ W, Calls Tryd.prog 15 #[tv N S, tv M T] W fun e w' => e = .returned (.tuple #[tv 0 ByteArray.empty, .bool false]) ∧ Below W.heap.size W w') := fun W => iAnd0 W hSz hTz hcan
    have HC2 : Hid (∀ W, Calls Tryd.prog 16 #[tv N S, tv M T] W fun e w' => e = .returned (.tuple #[tv 0 ByteArray.empty, .bool false]) ∧ Below W.heap.size W w') := fun W => iXor0 W hSz hTz hcan
    have HC3 : Hid (∀ W, Calls Tryd.prog 17 #[tv N S, tv M T] W fun e w' => e = .returned (.tuple #[tv 0 ByteArray.empty, .bool false]) ∧ Below W.heap.size W w') := fun W => sAnd0 W hSz hTz hcan
    clear hcan
    obtain ⟨p10, p11, -, -⟩ := HB0.out.at_ (q := w1.heap.size) (N := N) (S := S) (by repeat (first | exact List.Mem.head _ | apply List.Mem.tail))
    obtain ⟨p00, p01, -, -⟩ := HB0.out.at_ (q := w1.heap.size + 1) (N := M) (S := T) (by repeat (first | exact List.Mem.head _ | apply List.Mem.tail))
    go_wp2_with fail
    refine (HC1.out _).mono ?_
    rintro e y1 ⟨rfl, hb⟩
    clear p10 p11 p00 p01
    have HB1 : Hid (LB w y1 [(w1.heap.size + 1, M, T), (w1.heap.size, N, S)]) := HB0.out.below hb
    clear hb
    have HB2 : Hid (LB w (y1.alloc (.cells #[.int .i64 0, .string ByteArray.empty] 25)) [(y1.heap.size, 0, ByteArray.empty), (w1.heap.size + 1, M, T), (w1.heap.size, N, S)]) := HB1.out.box _ _
    obtain ⟨p20, p21, -, -⟩ := HB2.out.at_ (q := w1.heap.size) (N := N) (S := S) (by repeat (first | exact List.Mem.head _ | apply List.Mem.tail))
    obtain ⟨p10, p11, -, -⟩ := HB2.out.at_ (q := w1.heap.size + 1) (N := M) (S := T) (by repeat (first | exact List.Mem.head _ | apply List.Mem.tail))
    go_wp2_with fail
    refine (HC2.out _).mono ?_
    rintro e y3 ⟨rfl, hb⟩
    clear p20 p21 p10 p11
    have HB3 : Hid (LB w y3 [(y1.heap.size, 0, ByteArray.empty), (w1.heap.size + 1, M, T), (w1.heap.size, N, S)]) := HB2.out.below hb
    clear hb
    have HB4 : Hid (LB w (y3.alloc (.cells #[.int .i64 0, .string ByteArray.empty] 25)) [(y3.heap.size, 0, ByteArray.empty), (y1.heap.size, 0, ByteArray.empty), (w1.heap.size + 1, M, T), (w1.heap.size, N, S)]) := HB3.out.box _ _
    obtain ⟨p30, p31, -, -⟩ := HB4.out.at_ (q := w1.heap.size) (N := N) (S := S) (by repeat (first | exact List.Mem.head _ | apply List.Mem.tail))
    obtain ⟨p20, p21, -, -⟩ := HB4.out.at_ (q := w1.heap.size + 1) (N := M) (S := T) (by repeat (first | exact List.Mem.head _ | apply List.Mem.tail))
    go_wp2_with fail
    refine (HC3.out _).mono ?_
    rintro e y5 ⟨rfl, hb⟩
    clear p30 p31 p20 p21
    have HB5 : Hid (LB w y5 [(y3.heap.size, 0, ByteArray.empty), (y1.heap.size, 0, ByteArray.empty), (w1.heap.size + 1, M, T), (w1.heap.size, N, S)]) := HB4.out.below hb
    clear hb
    have HB6 : Hid (LB w (y5.alloc (.cells #[.int .i64 0, .string ByteArray.empty] 25)) [(y5.heap.size, 0, ByteArray.empty), (y3.heap.size, 0, ByteArray.empty), (y1.heap.size, 0, ByteArray.empty), (w1.heap.size + 1, M, T), (w1.heap.size, N, S)]) := HB5.out.box _ _
    obtain ⟨p20, p21, -, -⟩ := HB6.out.at_ (q := y1.heap.size) (N := 0) (S := ByteArray.empty) (by repeat (first | exact List.Mem.head _ | apply List.Mem.tail))
    obtain ⟨p10, p11, -, -⟩ := HB6.out.at_ (q := y3.heap.size) (N := 0) (S := ByteArray.empty) (by repeat (first | exact List.Mem.head _ | apply List.Mem.tail))
    have hemp : (ByteArray.empty.toList == ([] : List UInt8)) = true := Ss1.eql_true rfl
    go_wp2
    go_ret
    exact ⟨rfl, HB6.out.1⟩
  obtain ⟨h1, h2, h3⟩ := hcan
  obtain ⟨n, F, hn, rfl, hSF⟩ := tok_str h1
  obtain ⟨k, H, hk, hk2, hTF⟩ := tok_str h2
  obtain rfl : n = k := by omega
  subst h3
  clear h1 h2 hk hk2
  obtain ⟨X, hX⟩ : ∃ X, X = bs (tab n fun p => F p ^^ H p) := ⟨_, rfl⟩
  obtain ⟨C, hC⟩ : ∃ C, C = bs (tab n fun p => F p && H p) := ⟨_, rfl⟩
  obtain ⟨NT, hNT⟩ : ∃ C, C = bs (tab n fun p => !H p) := ⟨_, rfl⟩
  obtain ⟨NS, hNS⟩ : ∃ C, C = bs (tab n fun p => !F p) := ⟨_, rfl⟩
  obtain ⟨Ff, hFf⟩ : ∃ C, C = bs (tab n fun p => F p && !H p) := ⟨_, rfl⟩
  obtain ⟨Gg, hGg⟩ : ∃ C, C = bs (tab n fun p => !F p && H p) := ⟨_, rfl⟩
  have HC1 : Hid (∀ W, Calls Tryd.prog 15 #[tv (n : Int) S, tv (n : Int) T] W fun e w' => e = .returned (.tuple #[tv (n : Int) C, .bool true]) ∧ Below W.heap.size W w') := fun W => by
    rw [hSF, hTF, hC]; exact iAnd n F H W hn
  have HC2 : Hid (∀ W, Calls Tryd.prog 16 #[tv (n : Int) S, tv (n : Int) T] W fun e w' => e = .returned (.tuple #[tv (n : Int) X, .bool true]) ∧ Below W.heap.size W w') := fun W => by
    rw [hSF, hTF, hX]; exact iXor n F H W hn
  have HC3 : Hid (∀ W, Calls Tryd.prog 17 #[tv (n : Int) S, tv (n : Int) T] W fun e w' => e = .returned (.tuple #[tv (n : Int) C, .bool true]) ∧ Below W.heap.size W w') := fun W => by
    rw [hSF, hTF, hC]; exact sAnd n F H W hn
  have HC4 : Hid (∀ W, Calls Tryd.prog 16 #[tv (n : Int) X, tv (n : Int) T] W fun e w' => e = .returned (.tuple #[tv (n : Int) S, .bool true]) ∧ Below W.heap.size W w') := fun W => by
    rw [hX, hTF, hSF, ← xor_back n F H]; exact iXor n _ H W hn
  have HC5 : Hid (∀ W, Calls Tryd.prog 15 #[tv (n : Int) S, tv (n : Int) NT] W fun e w' => e = .returned (.tuple #[tv (n : Int) Ff, .bool true]) ∧ Below W.heap.size W w') := fun W => by
    rw [hSF, hNT, hFf]; exact iAnd n F _ W hn
  have HC6 : Hid (∀ W, Calls Tryd.prog 15 #[tv (n : Int) NS, tv (n : Int) T] W fun e w' => e = .returned (.tuple #[tv (n : Int) Gg, .bool true]) ∧ Below W.heap.size W w') := fun W => by
    rw [hNS, hTF, hGg]; exact iAnd n _ H W hn
  have HC7 : Hid (∀ W, Calls Tryd.prog 16 #[tv (n : Int) Ff, tv (n : Int) Gg] W fun e w' => e = .returned (.tuple #[tv (n : Int) X, .bool true]) ∧ Below W.heap.size W w') := fun W => by
    rw [hFf, hGg, hX, ← xor_parts n F H]; exact iXor n _ _ W hn
  have HN1 : Hid (∀ W, Calls Tryd.prog 18 #[tv (n : Int) T] W fun e w' => e = .returned (tv (n : Int) NT) ∧ Below W.heap.size W w') := fun W => by
    rw [hTF, hNT]; exact iNot n H W hn
  have HN2 : Hid (∀ W, Calls Tryd.prog 18 #[tv (n : Int) S] W fun e w' => e = .returned (tv (n : Int) NS) ∧ Below W.heap.size W w') := fun W => by
    rw [hSF, hNS]; exact iNot n F W hn
  have HN3 : Hid (∀ W, Calls Tryd.prog 18 #[tv (n : Int) NS] W fun e w' => e = .returned (tv (n : Int) S) ∧ Below W.heap.size W w') := fun W => by
    rw [hNS, hSF, ← not_not_tab n F]; exact iNot n _ W hn
  have HKY : Hid (∀ W U, TabK W → (U = S ∨ U = T) → Calls Tryd.prog 12 #[tv (n : Int) U] W fun e w' => e = .returned (.string (bs (keyL n (tl U)))) ∧ Below W.heap.size W w') := fun W U hTk hU => by
    rcases hU with rfl | rfl
    · rw [hSF, tl_bs]; exact iKey n F W hn hTk
    · rw [hTF, tl_bs]; exact iKey n H W hn hTk
  have HKS : Hid (∀ W, Calls Tryd.prog 19 #[tv (n : Int) S] W fun e w' => e = .returned (.string (bs (keyL n (tl S)))) ∧ Below W.heap.size W w') := fun W => by
    rw [hSF, tl_bs]; exact sKey n F W hn
  have HCU : Hid (∀ W U, (U = S ∨ U = C ∨ U = X ∨ U = Ff ∨ U = Gg) → Calls Tryd.prog 11 #[tv (n : Int) U] W fun e w' => e = .returned (.int .i64 ((cu n U : Nat) : Int)) ∧ Below W.heap.size W w') := fun W U hU => by
    rcases hU with rfl | rfl | rfl | rfl | rfl
    · rw [hSF, cu_tab]; exact iCount n _ W hn
    · rw [hC, cu_tab]; exact iCount n _ W hn
    · rw [hX, cu_tab]; exact iCount n _ W hn
    · rw [hFf, cu_tab]; exact iCount n _ W hn
    · rw [hGg, cu_tab]; exact iCount n _ W hn
  have hc1 : ((cu n C : Nat) : Int) + ((cu n Ff : Nat) : Int) = ((cu n S : Nat) : Int) := by
    rw [hC, hFf, hSF, cu_tab, cu_tab, cu_tab, ← count_and F H]; push_cast; rfl
  have hc2 : ((cu n Ff : Nat) : Int) + ((cu n Gg : Nat) : Int) = ((cu n X : Nat) : Int) := by
    rw [hX, hFf, hGg, cu_tab, cu_tab, cu_tab, count_xor F H]; push_cast; rfl
  have hbS : cu n S ≤ 4096 := by rw [hSF, cu_tab]; exact Nat.le_trans (cnt_le _ _) (p12 hn).2
  have hbX : cu n X ≤ 4096 := by rw [hX, cu_tab]; exact Nat.le_trans (cnt_le _ _) (p12 hn).2
  have HKE : Hid (bs (keyL n (tl S)) = bs (keyL n (tl T)) ↔ S = T) := by
    show _ ↔ _
    rw [key_same, bs_tl, bs_tl]
  clear hSF hTF hX hC hNT hNS hFf hGg
  generalize cu n = CU at *
  obtain ⟨KY, hKY⟩ : ∃ KY : ByteArray → ByteArray, ∀ U, KY U = bs (keyL n (tl U)) := ⟨fun U => bs (keyL n (tl U)), fun _ => rfl⟩
  simp only [← hKY] at HKY HKS HKE
  clear hKY
  obtain ⟨p10, p11, -, -⟩ := HB0.out.at_ (q := w1.heap.size) (N := (n : Int)) (S := S) (by repeat (first | exact List.Mem.head _ | apply List.Mem.tail))
  obtain ⟨p00, p01, -, -⟩ := HB0.out.at_ (q := w1.heap.size + 1) (N := (n : Int)) (S := T) (by repeat (first | exact List.Mem.head _ | apply List.Mem.tail))
  go_wp2_with fail
  refine (HC1.out _).mono ?_
  rintro e y1 ⟨rfl, hb⟩
  clear p10 p11 p00 p01
  have HB1 : Hid (LB w y1 [(w1.heap.size + 1, (n : Int), T), (w1.heap.size, (n : Int), S)]) := HB0.out.below hb
  clear hb
  have HB2 : Hid (LB w (y1.alloc (.cells #[.int .i64 (n : Int), .string C] 25)) [(y1.heap.size, (n : Int), C), (w1.heap.size + 1, (n : Int), T), (w1.heap.size, (n : Int), S)]) := HB1.out.box _ _
  obtain ⟨p20, p21, -, -⟩ := HB2.out.at_ (q := w1.heap.size) (N := (n : Int)) (S := S) (by repeat (first | exact List.Mem.head _ | apply List.Mem.tail))
  obtain ⟨p10, p11, -, -⟩ := HB2.out.at_ (q := w1.heap.size + 1) (N := (n : Int)) (S := T) (by repeat (first | exact List.Mem.head _ | apply List.Mem.tail))
  go_wp2_with fail
  refine (HC2.out _).mono ?_
  rintro e y3 ⟨rfl, hb⟩
  clear p20 p21 p10 p11
  have HB3 : Hid (LB w y3 [(y1.heap.size, (n : Int), C), (w1.heap.size + 1, (n : Int), T), (w1.heap.size, (n : Int), S)]) := HB2.out.below hb
  clear hb
  have HB4 : Hid (LB w (y3.alloc (.cells #[.int .i64 (n : Int), .string X] 25)) [(y3.heap.size, (n : Int), X), (y1.heap.size, (n : Int), C), (w1.heap.size + 1, (n : Int), T), (w1.heap.size, (n : Int), S)]) := HB3.out.box _ _
  obtain ⟨p30, p31, -, -⟩ := HB4.out.at_ (q := w1.heap.size) (N := (n : Int)) (S := S) (by repeat (first | exact List.Mem.head _ | apply List.Mem.tail))
  obtain ⟨p20, p21, -, -⟩ := HB4.out.at_ (q := w1.heap.size + 1) (N := (n : Int)) (S := T) (by repeat (first | exact List.Mem.head _ | apply List.Mem.tail))
  go_wp2_with fail
  refine (HC3.out _).mono ?_
  rintro e y5 ⟨rfl, hb⟩
  clear p30 p31 p20 p21
  have HB5 : Hid (LB w y5 [(y3.heap.size, (n : Int), X), (y1.heap.size, (n : Int), C), (w1.heap.size + 1, (n : Int), T), (w1.heap.size, (n : Int), S)]) := HB4.out.below hb
  clear hb
  have HB6 : Hid (LB w (y5.alloc (.cells #[.int .i64 (n : Int), .string C] 25)) [(y5.heap.size, (n : Int), C), (y3.heap.size, (n : Int), X), (y1.heap.size, (n : Int), C), (w1.heap.size + 1, (n : Int), T), (w1.heap.size, (n : Int), S)]) := HB5.out.box _ _
  obtain ⟨p10, p11, -, -⟩ := HB6.out.at_ (q := y3.heap.size) (N := (n : Int)) (S := X) (by repeat (first | exact List.Mem.head _ | apply List.Mem.tail))
  obtain ⟨p30, p31, -, -⟩ := HB6.out.at_ (q := w1.heap.size + 1) (N := (n : Int)) (S := T) (by repeat (first | exact List.Mem.head _ | apply List.Mem.tail))
  go_wp2_with fail
  refine (HC4.out _).mono ?_
  rintro e y7 ⟨rfl, hb⟩
  clear p10 p11 p30 p31
  have HB7 : Hid (LB w y7 [(y5.heap.size, (n : Int), C), (y3.heap.size, (n : Int), X), (y1.heap.size, (n : Int), C), (w1.heap.size + 1, (n : Int), T), (w1.heap.size, (n : Int), S)]) := HB6.out.below hb
  clear hb
  have HB8 : Hid (LB w (y7.alloc (.cells #[.int .i64 (n : Int), .string S] 25)) [(y7.heap.size, (n : Int), S), (y5.heap.size, (n : Int), C), (y3.heap.size, (n : Int), X), (y1.heap.size, (n : Int), C), (w1.heap.size + 1, (n : Int), T), (w1.heap.size, (n : Int), S)]) := HB7.out.box _ _
  obtain ⟨p50, p51, -, -⟩ := HB8.out.at_ (q := w1.heap.size) (N := (n : Int)) (S := S) (by repeat (first | exact List.Mem.head _ | apply List.Mem.tail))
  obtain ⟨p40, p41, -, -⟩ := HB8.out.at_ (q := w1.heap.size + 1) (N := (n : Int)) (S := T) (by repeat (first | exact List.Mem.head _ | apply List.Mem.tail))
  go_upto_region 12 with fail
  clear p50 p51 p40 p41
  generalize (y7.alloc (.cells #[.int .i64 (n : Int), .string S] 25)) = W8 at *
  obtain ⟨p50, p51, -, -⟩ := HB8.out.at_ (q := w1.heap.size) (N := (n : Int)) (S := S) (by repeat (first | exact List.Mem.head _ | apply List.Mem.tail))
  obtain ⟨p40, p41, -, -⟩ := HB8.out.at_ (q := w1.heap.size + 1) (N := (n : Int)) (S := T) (by repeat (first | exact List.Mem.head _ | apply List.Mem.tail))
  have hall0 := HB8.out.lt
  have hN0 : w1.heap.size + 1 < W8.heap.size := hall0 (w1.heap.size + 1, (n : Int), T) (by repeat (first | exact List.Mem.head _ | apply List.Mem.tail))
  have hw0 := HB8.out.1.size
  go_cut [13, 14] from 68 to 74 (fun sq sb wc => ∃ q : Nat, sq = .pointer (some ⟨q, 0, none⟩) ∧ sb = .bool true ∧ LB w wc ((q, (n : Int), Ff) :: [(y7.heap.size, (n : Int), S), (y5.heap.size, (n : Int), C), (y3.heap.size, (n : Int), X), (y1.heap.size, (n : Int), C), (w1.heap.size + 1, (n : Int), T), (w1.heap.size, (n : Int), S)]))
  case first =>
    go_wp2_with fail
    go_region_held3 (fun w' => w'.cell? ⟨w1.heap.size, 0, none⟩ = some (.int .i64 (n : Int)) ∧ w'.cell? ⟨w1.heap.size, 1, none⟩ = some (.string S) ∧ w'.cell? ⟨w1.heap.size + 1, 0, none⟩ = some (.int .i64 (n : Int)) ∧ w'.cell? ⟨w1.heap.size + 1, 1, none⟩ = some (.string T)) ((first | exact ⟨(HB8.out.at_ (q := w1.heap.size) (N := (n : Int)) (S := S) (by repeat (first | exact List.Mem.head _ | apply List.Mem.tail))).c0, (HB8.out.at_ (q := w1.heap.size) (N := (n : Int)) (S := S) (by repeat (first | exact List.Mem.head _ | apply List.Mem.tail))).c1, (HB8.out.at_ (q := w1.heap.size + 1) (N := (n : Int)) (S := T) (by repeat (first | exact List.Mem.head _ | apply List.Mem.tail))).c0, (HB8.out.at_ (q := w1.heap.size + 1) (N := (n : Int)) (S := T) (by repeat (first | exact List.Mem.head _ | apply List.Mem.tail))).c1⟩ | exact ⟨(hS3.at_ (q := w1.heap.size) (N := (n : Int)) (S := S) (by repeat (first | exact List.Mem.head _ | apply List.Mem.tail))).c0, (hS3.at_ (q := w1.heap.size) (N := (n : Int)) (S := S) (by repeat (first | exact List.Mem.head _ | apply List.Mem.tail))).c1, (hS3.at_ (q := w1.heap.size + 1) (N := (n : Int)) (S := T) (by repeat (first | exact List.Mem.head _ | apply List.Mem.tail))).c0, (hS3.at_ (q := w1.heap.size + 1) (N := (n : Int)) (S := T) (by repeat (first | exact List.Mem.head _ | apply List.Mem.tail))).c1⟩ | exact ⟨((hS3.below ((Below.refl _ _).alloc (Nat.le_refl _) _)).at_ (q := w1.heap.size) (N := (n : Int)) (S := S) (by repeat (first | exact List.Mem.head _ | apply List.Mem.tail))).c0, ((hS3.below ((Below.refl _ _).alloc (Nat.le_refl _) _)).at_ (q := w1.heap.size) (N := (n : Int)) (S := S) (by repeat (first | exact List.Mem.head _ | apply List.Mem.tail))).c1, ((hS3.below ((Below.refl _ _).alloc (Nat.le_refl _) _)).at_ (q := w1.heap.size + 1) (N := (n : Int)) (S := T) (by repeat (first | exact List.Mem.head _ | apply List.Mem.tail))).c0, ((hS3.below ((Below.refl _ _).alloc (Nat.le_refl _) _)).at_ (q := w1.heap.size + 1) (N := (n : Int)) (S := T) (by repeat (first | exact List.Mem.head _ | apply List.Mem.tail))).c1⟩ | exact ⟨((HB8.out.below ((Below.refl _ _).alloc (Nat.le_refl _) _)).at_ (q := w1.heap.size) (N := (n : Int)) (S := S) (by repeat (first | exact List.Mem.head _ | apply List.Mem.tail))).c0, ((HB8.out.below ((Below.refl _ _).alloc (Nat.le_refl _) _)).at_ (q := w1.heap.size) (N := (n : Int)) (S := S) (by repeat (first | exact List.Mem.head _ | apply List.Mem.tail))).c1, ((HB8.out.below ((Below.refl _ _).alloc (Nat.le_refl _) _)).at_ (q := w1.heap.size + 1) (N := (n : Int)) (S := T) (by repeat (first | exact List.Mem.head _ | apply List.Mem.tail))).c0, ((HB8.out.below ((Below.refl _ _).alloc (Nat.le_refl _) _)).at_ (q := w1.heap.size + 1) (N := (n : Int)) (S := T) (by repeat (first | exact List.Mem.head _ | apply List.Mem.tail))).c1⟩ | exact ⟨Tc8.sother (Tc8.sother (hS3.at_ (q := w1.heap.size) (N := (n : Int)) (S := S) (by repeat (first | exact List.Mem.head _ | apply List.Mem.tail))).c0 (by omega)) (by omega), Tc8.sother (Tc8.sother (hS3.at_ (q := w1.heap.size) (N := (n : Int)) (S := S) (by repeat (first | exact List.Mem.head _ | apply List.Mem.tail))).c1 (by omega)) (by omega), Tc8.sother (Tc8.sother (hS3.at_ (q := w1.heap.size + 1) (N := (n : Int)) (S := T) (by repeat (first | exact List.Mem.head _ | apply List.Mem.tail))).c0 (by omega)) (by omega), Tc8.sother (Tc8.sother (hS3.at_ (q := w1.heap.size + 1) (N := (n : Int)) (S := T) (by repeat (first | exact List.Mem.head _ | apply List.Mem.tail))).c1 (by omega)) (by omega)⟩)) ((first | (go_at_call 18; refine (HN1.out _).mono ?_; rintro e xa ⟨rfl, hb⟩; (first | have hS3 := hS3.below hb | have hS3 := (hS3.below ((Below.refl _ _).alloc (Nat.le_refl _) _)).below hb | have hS3 := HB8.out.drew.below hb | have hS3 := (HB8.out.below ((Below.refl _ _).alloc (Nat.le_refl _) _)).drew.below hb | have hS3 := (HB8.out.drew.below ((Below.refl _ _).alloc (Nat.le_refl _) _)).below hb); have hallN := hS3.lt; have hNN := hallN (w1.heap.size + 1, (n : Int), T) (by repeat (first | exact List.Mem.head _ | apply List.Mem.tail)); have hWW := hS3.1.size; (first | have hL := hL.below hb | have hL := (madeD _ _ _ _).below hb | have hL := (Lay.made _ _ _ _).below hb | skip); (first | (have hLc := hL; obtain ⟨l0, l1, l2, l3⟩ := hLc) | skip); clear hb) | (go_at_call 15; refine (HC5.out _).mono ?_; rintro e xa ⟨rfl, hb⟩; (first | have hS3 := hS3.below hb | have hS3 := (hS3.below ((Below.refl _ _).alloc (Nat.le_refl _) _)).below hb | have hS3 := HB8.out.drew.below hb | have hS3 := (HB8.out.below ((Below.refl _ _).alloc (Nat.le_refl _) _)).drew.below hb | have hS3 := (HB8.out.drew.below ((Below.refl _ _).alloc (Nat.le_refl _) _)).below hb); have hallA := hS3.lt; have hNN := hallA (w1.heap.size + 1, (n : Int), T) (by repeat (first | exact List.Mem.head _ | apply List.Mem.tail)); have hWW := hS3.1.size; (first | have hL := hL.below hb | have hL := (madeD _ _ _ _).below hb | have hL := (Lay.made _ _ _ _).below hb | skip); (first | (have hLc := hL; obtain ⟨l0, l1, l2, l3⟩ := hLc) | skip); clear hb)))
    all_goals
      go_wp2_with fail
      go_meet
      case rel => first | exact ⟨_, rfl, rfl, hS3.box _ _⟩ | exact ⟨_, rfl, rfl, hS3.put hL hall0 (by omega) _ _⟩ | exact ⟨_, rfl, rfl, hS3.put hL hallN (by omega) _ _⟩
  case rest =>
    clear p50 p51 p40 p41
    obtain ⟨q7, rfl, rfl, hcut1⟩ := hcut
    have HB9 : Hid (LB w wc [(q7, (n : Int), Ff), (y7.heap.size, (n : Int), S), (y5.heap.size, (n : Int), C), (y3.heap.size, (n : Int), X), (y1.heap.size, (n : Int), C), (w1.heap.size + 1, (n : Int), T), (w1.heap.size, (n : Int), S)]) := hcut1
    clear hcut1 hall0 hN0 hw0
    generalize hwc : wc = W8c at *
    clear hwc
    obtain ⟨p60, p61, -, -⟩ := HB9.out.at_ (q := w1.heap.size) (N := (n : Int)) (S := S) (by repeat (first | exact List.Mem.head _ | apply List.Mem.tail))
    obtain ⟨p50, p51, -, -⟩ := HB9.out.at_ (q := w1.heap.size + 1) (N := (n : Int)) (S := T) (by repeat (first | exact List.Mem.head _ | apply List.Mem.tail))
    go_upto_region 13 with fail
    clear p60 p61 p50 p51
    obtain ⟨p60, p61, -, -⟩ := HB9.out.at_ (q := w1.heap.size) (N := (n : Int)) (S := S) (by repeat (first | exact List.Mem.head _ | apply List.Mem.tail))
    obtain ⟨p50, p51, -, -⟩ := HB9.out.at_ (q := w1.heap.size + 1) (N := (n : Int)) (S := T) (by repeat (first | exact List.Mem.head _ | apply List.Mem.tail))
    have hall0 := HB9.out.lt
    have hN0 : w1.heap.size + 1 < W8c.heap.size := hall0 (w1.heap.size + 1, (n : Int), T) (by repeat (first | exact List.Mem.head _ | apply List.Mem.tail))
    have hw0 := HB9.out.1.size
    go_cut [15, 16] from 75 to 81 (fun sq sb wc => ∃ q : Nat, sq = .pointer (some ⟨q, 0, none⟩) ∧ sb = .bool true ∧ LB w wc ((q, (n : Int), Gg) :: [(q7, (n : Int), Ff), (y7.heap.size, (n : Int), S), (y5.heap.size, (n : Int), C), (y3.heap.size, (n : Int), X), (y1.heap.size, (n : Int), C), (w1.heap.size + 1, (n : Int), T), (w1.heap.size, (n : Int), S)]))
    case first =>
      go_wp2_with fail
      go_region_held3 (fun w' => w'.cell? ⟨w1.heap.size, 0, none⟩ = some (.int .i64 (n : Int)) ∧ w'.cell? ⟨w1.heap.size, 1, none⟩ = some (.string S) ∧ w'.cell? ⟨w1.heap.size + 1, 0, none⟩ = some (.int .i64 (n : Int)) ∧ w'.cell? ⟨w1.heap.size + 1, 1, none⟩ = some (.string T)) ((first | exact ⟨(HB9.out.at_ (q := w1.heap.size) (N := (n : Int)) (S := S) (by repeat (first | exact List.Mem.head _ | apply List.Mem.tail))).c0, (HB9.out.at_ (q := w1.heap.size) (N := (n : Int)) (S := S) (by repeat (first | exact List.Mem.head _ | apply List.Mem.tail))).c1, (HB9.out.at_ (q := w1.heap.size + 1) (N := (n : Int)) (S := T) (by repeat (first | exact List.Mem.head _ | apply List.Mem.tail))).c0, (HB9.out.at_ (q := w1.heap.size + 1) (N := (n : Int)) (S := T) (by repeat (first | exact List.Mem.head _ | apply List.Mem.tail))).c1⟩ | exact ⟨(hS3.at_ (q := w1.heap.size) (N := (n : Int)) (S := S) (by repeat (first | exact List.Mem.head _ | apply List.Mem.tail))).c0, (hS3.at_ (q := w1.heap.size) (N := (n : Int)) (S := S) (by repeat (first | exact List.Mem.head _ | apply List.Mem.tail))).c1, (hS3.at_ (q := w1.heap.size + 1) (N := (n : Int)) (S := T) (by repeat (first | exact List.Mem.head _ | apply List.Mem.tail))).c0, (hS3.at_ (q := w1.heap.size + 1) (N := (n : Int)) (S := T) (by repeat (first | exact List.Mem.head _ | apply List.Mem.tail))).c1⟩ | exact ⟨((hS3.below ((Below.refl _ _).alloc (Nat.le_refl _) _)).at_ (q := w1.heap.size) (N := (n : Int)) (S := S) (by repeat (first | exact List.Mem.head _ | apply List.Mem.tail))).c0, ((hS3.below ((Below.refl _ _).alloc (Nat.le_refl _) _)).at_ (q := w1.heap.size) (N := (n : Int)) (S := S) (by repeat (first | exact List.Mem.head _ | apply List.Mem.tail))).c1, ((hS3.below ((Below.refl _ _).alloc (Nat.le_refl _) _)).at_ (q := w1.heap.size + 1) (N := (n : Int)) (S := T) (by repeat (first | exact List.Mem.head _ | apply List.Mem.tail))).c0, ((hS3.below ((Below.refl _ _).alloc (Nat.le_refl _) _)).at_ (q := w1.heap.size + 1) (N := (n : Int)) (S := T) (by repeat (first | exact List.Mem.head _ | apply List.Mem.tail))).c1⟩ | exact ⟨((HB9.out.below ((Below.refl _ _).alloc (Nat.le_refl _) _)).at_ (q := w1.heap.size) (N := (n : Int)) (S := S) (by repeat (first | exact List.Mem.head _ | apply List.Mem.tail))).c0, ((HB9.out.below ((Below.refl _ _).alloc (Nat.le_refl _) _)).at_ (q := w1.heap.size) (N := (n : Int)) (S := S) (by repeat (first | exact List.Mem.head _ | apply List.Mem.tail))).c1, ((HB9.out.below ((Below.refl _ _).alloc (Nat.le_refl _) _)).at_ (q := w1.heap.size + 1) (N := (n : Int)) (S := T) (by repeat (first | exact List.Mem.head _ | apply List.Mem.tail))).c0, ((HB9.out.below ((Below.refl _ _).alloc (Nat.le_refl _) _)).at_ (q := w1.heap.size + 1) (N := (n : Int)) (S := T) (by repeat (first | exact List.Mem.head _ | apply List.Mem.tail))).c1⟩ | exact ⟨Tc8.sother (Tc8.sother (hS3.at_ (q := w1.heap.size) (N := (n : Int)) (S := S) (by repeat (first | exact List.Mem.head _ | apply List.Mem.tail))).c0 (by omega)) (by omega), Tc8.sother (Tc8.sother (hS3.at_ (q := w1.heap.size) (N := (n : Int)) (S := S) (by repeat (first | exact List.Mem.head _ | apply List.Mem.tail))).c1 (by omega)) (by omega), Tc8.sother (Tc8.sother (hS3.at_ (q := w1.heap.size + 1) (N := (n : Int)) (S := T) (by repeat (first | exact List.Mem.head _ | apply List.Mem.tail))).c0 (by omega)) (by omega), Tc8.sother (Tc8.sother (hS3.at_ (q := w1.heap.size + 1) (N := (n : Int)) (S := T) (by repeat (first | exact List.Mem.head _ | apply List.Mem.tail))).c1 (by omega)) (by omega)⟩)) ((first | (go_at_call 18; refine (HN2.out _).mono ?_; rintro e xa ⟨rfl, hb⟩; (first | have hS3 := hS3.below hb | have hS3 := (hS3.below ((Below.refl _ _).alloc (Nat.le_refl _) _)).below hb | have hS3 := HB9.out.drew.below hb | have hS3 := (HB9.out.below ((Below.refl _ _).alloc (Nat.le_refl _) _)).drew.below hb | have hS3 := (HB9.out.drew.below ((Below.refl _ _).alloc (Nat.le_refl _) _)).below hb); have hallN := hS3.lt; have hNN := hallN (w1.heap.size + 1, (n : Int), T) (by repeat (first | exact List.Mem.head _ | apply List.Mem.tail)); have hWW := hS3.1.size; (first | have hL := hL.below hb | have hL := (madeD _ _ _ _).below hb | have hL := (Lay.made _ _ _ _).below hb | skip); (first | (have hLc := hL; obtain ⟨l0, l1, l2, l3⟩ := hLc) | skip); clear hb) | (go_at_call 15; refine (HC6.out _).mono ?_; rintro e xa ⟨rfl, hb⟩; (first | have hS3 := hS3.below hb | have hS3 := (hS3.below ((Below.refl _ _).alloc (Nat.le_refl _) _)).below hb | have hS3 := HB9.out.drew.below hb | have hS3 := (HB9.out.below ((Below.refl _ _).alloc (Nat.le_refl _) _)).drew.below hb | have hS3 := (HB9.out.drew.below ((Below.refl _ _).alloc (Nat.le_refl _) _)).below hb); have hallA := hS3.lt; have hNN := hallA (w1.heap.size + 1, (n : Int), T) (by repeat (first | exact List.Mem.head _ | apply List.Mem.tail)); have hWW := hS3.1.size; (first | have hL := hL.below hb | have hL := (madeD _ _ _ _).below hb | have hL := (Lay.made _ _ _ _).below hb | skip); (first | (have hLc := hL; obtain ⟨l0, l1, l2, l3⟩ := hLc) | skip); clear hb)))
      all_goals
        go_wp2_with fail
        go_meet
        case rel => first | exact ⟨_, rfl, rfl, hS3.box _ _⟩ | exact ⟨_, rfl, rfl, hS3.put hL hall0 (by omega) _ _⟩ | exact ⟨_, rfl, rfl, hS3.put hL hallN (by omega) _ _⟩
    case rest =>
      clear p60 p61 p50 p51
      obtain ⟨q8, rfl, rfl, hcut1⟩ := hcut
      have HB10 : Hid (LB w wc [(q8, (n : Int), Gg), (q7, (n : Int), Ff), (y7.heap.size, (n : Int), S), (y5.heap.size, (n : Int), C), (y3.heap.size, (n : Int), X), (y1.heap.size, (n : Int), C), (w1.heap.size + 1, (n : Int), T), (w1.heap.size, (n : Int), S)]) := hcut1
      clear hcut1 hall0 hN0 hw0
      generalize hwc : wc = W8cc at *
      clear hwc
      obtain ⟨p10, p11, -, -⟩ := HB10.out.at_ (q := q7) (N := (n : Int)) (S := Ff) (by repeat (first | exact List.Mem.head _ | apply List.Mem.tail))
      obtain ⟨p00, p01, -, -⟩ := HB10.out.at_ (q := q8) (N := (n : Int)) (S := Gg) (by repeat (first | exact List.Mem.head _ | apply List.Mem.tail))
      go_wp2_with fail
      refine (HC7.out _).mono ?_
      rintro e y11 ⟨rfl, hb⟩
      clear p10 p11 p00 p01
      have HB11 : Hid (LB w y11 [(q8, (n : Int), Gg), (q7, (n : Int), Ff), (y7.heap.size, (n : Int), S), (y5.heap.size, (n : Int), C), (y3.heap.size, (n : Int), X), (y1.heap.size, (n : Int), C), (w1.heap.size + 1, (n : Int), T), (w1.heap.size, (n : Int), S)]) := HB10.out.below hb
      clear hb
      have HB12 : Hid (LB w (y11.alloc (.cells #[.int .i64 (n : Int), .string X] 25)) [(y11.heap.size, (n : Int), X), (q8, (n : Int), Gg), (q7, (n : Int), Ff), (y7.heap.size, (n : Int), S), (y5.heap.size, (n : Int), C), (y3.heap.size, (n : Int), X), (y1.heap.size, (n : Int), C), (w1.heap.size + 1, (n : Int), T), (w1.heap.size, (n : Int), S)]) := HB11.out.box _ _
      obtain ⟨p30, p31, -, -⟩ := HB12.out.at_ (q := y7.heap.size) (N := (n : Int)) (S := S) (by repeat (first | exact List.Mem.head _ | apply List.Mem.tail))
      obtain ⟨p80, p81, -, -⟩ := HB12.out.at_ (q := w1.heap.size) (N := (n : Int)) (S := S) (by repeat (first | exact List.Mem.head _ | apply List.Mem.tail))
      go_wp2_with fail
      clear p30 p31 p80 p81
      generalize (y11.alloc (.cells #[.int .i64 (n : Int), .string X] 25)) = Z at *
      have rc00 : ∀ d os, (grow (redrawn Z d) os).cell? ⟨y7.heap.size, 0, none⟩ = some (.int .i64 (n : Int)) := fun d os => cell_regrown (HB12.out.at_ (q := y7.heap.size) (N := (n : Int)) (S := S) (by repeat (first | exact List.Mem.head _ | apply List.Mem.tail))).c0 d os
      have rc01 : ∀ d os, (grow (redrawn Z d) os).cell? ⟨y7.heap.size, 1, none⟩ = some (.string S) := fun d os => cell_regrown (HB12.out.at_ (q := y7.heap.size) (N := (n : Int)) (S := S) (by repeat (first | exact List.Mem.head _ | apply List.Mem.tail))).c1 d os
      have rc10 : ∀ d os, (grow (redrawn Z d) os).cell? ⟨w1.heap.size, 0, none⟩ = some (.int .i64 (n : Int)) := fun d os => cell_regrown (HB12.out.at_ (q := w1.heap.size) (N := (n : Int)) (S := S) (by repeat (first | exact List.Mem.head _ | apply List.Mem.tail))).c0 d os
      have rc11 : ∀ d os, (grow (redrawn Z d) os).cell? ⟨w1.heap.size, 1, none⟩ = some (.string S) := fun d os => cell_regrown (HB12.out.at_ (q := w1.heap.size) (N := (n : Int)) (S := S) (by repeat (first | exact List.Mem.head _ | apply List.Mem.tail))).c1 d os
      have rc20 : ∀ d os, (grow (redrawn Z d) os).cell? ⟨w1.heap.size + 1, 0, none⟩ = some (.int .i64 (n : Int)) := fun d os => cell_regrown (HB12.out.at_ (q := w1.heap.size + 1) (N := (n : Int)) (S := T) (by repeat (first | exact List.Mem.head _ | apply List.Mem.tail))).c0 d os
      have rc21 : ∀ d os, (grow (redrawn Z d) os).cell? ⟨w1.heap.size + 1, 1, none⟩ = some (.string T) := fun d os => cell_regrown (HB12.out.at_ (q := w1.heap.size + 1) (N := (n : Int)) (S := T) (by repeat (first | exact List.Mem.head _ | apply List.Mem.tail))).c1 d os
      have rc30 : ∀ d os, (grow (redrawn Z d) os).cell? ⟨y11.heap.size, 0, none⟩ = some (.int .i64 (n : Int)) := fun d os => cell_regrown (HB12.out.at_ (q := y11.heap.size) (N := (n : Int)) (S := X) (by repeat (first | exact List.Mem.head _ | apply List.Mem.tail))).c0 d os
      have rc31 : ∀ d os, (grow (redrawn Z d) os).cell? ⟨y11.heap.size, 1, none⟩ = some (.string X) := fun d os => cell_regrown (HB12.out.at_ (q := y11.heap.size) (N := (n : Int)) (S := X) (by repeat (first | exact List.Mem.head _ | apply List.Mem.tail))).c1 d os
      have rc40 : ∀ d os, (grow (redrawn Z d) os).cell? ⟨y3.heap.size, 0, none⟩ = some (.int .i64 (n : Int)) := fun d os => cell_regrown (HB12.out.at_ (q := y3.heap.size) (N := (n : Int)) (S := X) (by repeat (first | exact List.Mem.head _ | apply List.Mem.tail))).c0 d os
      have rc41 : ∀ d os, (grow (redrawn Z d) os).cell? ⟨y3.heap.size, 1, none⟩ = some (.string X) := fun d os => cell_regrown (HB12.out.at_ (q := y3.heap.size) (N := (n : Int)) (S := X) (by repeat (first | exact List.Mem.head _ | apply List.Mem.tail))).c1 d os
      have rc50 : ∀ d os, (grow (redrawn Z d) os).cell? ⟨y1.heap.size, 0, none⟩ = some (.int .i64 (n : Int)) := fun d os => cell_regrown (HB12.out.at_ (q := y1.heap.size) (N := (n : Int)) (S := C) (by repeat (first | exact List.Mem.head _ | apply List.Mem.tail))).c0 d os
      have rc51 : ∀ d os, (grow (redrawn Z d) os).cell? ⟨y1.heap.size, 1, none⟩ = some (.string C) := fun d os => cell_regrown (HB12.out.at_ (q := y1.heap.size) (N := (n : Int)) (S := C) (by repeat (first | exact List.Mem.head _ | apply List.Mem.tail))).c1 d os
      have rc60 : ∀ d os, (grow (redrawn Z d) os).cell? ⟨q7, 0, none⟩ = some (.int .i64 (n : Int)) := fun d os => cell_regrown (HB12.out.at_ (q := q7) (N := (n : Int)) (S := Ff) (by repeat (first | exact List.Mem.head _ | apply List.Mem.tail))).c0 d os
      have rc61 : ∀ d os, (grow (redrawn Z d) os).cell? ⟨q7, 1, none⟩ = some (.string Ff) := fun d os => cell_regrown (HB12.out.at_ (q := q7) (N := (n : Int)) (S := Ff) (by repeat (first | exact List.Mem.head _ | apply List.Mem.tail))).c1 d os
      have rc70 : ∀ d os, (grow (redrawn Z d) os).cell? ⟨q8, 0, none⟩ = some (.int .i64 (n : Int)) := fun d os => cell_regrown (HB12.out.at_ (q := q8) (N := (n : Int)) (S := Gg) (by repeat (first | exact List.Mem.head _ | apply List.Mem.tail))).c0 d os
      have rc71 : ∀ d os, (grow (redrawn Z d) os).cell? ⟨q8, 1, none⟩ = some (.string Gg) := fun d os => cell_regrown (HB12.out.at_ (q := q8) (N := (n : Int)) (S := Gg) (by repeat (first | exact List.Mem.head _ | apply List.Mem.tail))).c1 d os
      have HQ1 : Hid (∀ d os, Calls Tryd.prog 18 #[tv (n : Int) S] (grow (redrawn Z d) os) fun e w'' => e = .returned (tv (n : Int) NS) ∧ ∃ p : Regrown, w'' = grow (redrawn Z p.d) p.os) := fun d os => Calls.regrown_of (HN2.out _)
      have HQ2 : Hid (∀ d os, Calls Tryd.prog 18 #[tv (n : Int) NS] (grow (redrawn Z d) os) fun e w'' => e = .returned (tv (n : Int) S) ∧ ∃ p : Regrown, w'' = grow (redrawn Z p.d) p.os) := fun d os => Calls.regrown_of (HN3.out _)
      have HQ3 : Hid (∀ d os U, (U = S ∨ U = T) → Calls Tryd.prog 12 #[tv (n : Int) U] (grow (redrawn Z d) os) fun e w'' => e = .returned (.string (KY U)) ∧ ∃ p : Regrown, w'' = grow (redrawn Z p.d) p.os) := fun d os U hU => Calls.regrown_of (HKY.out _ U (HTK.out.below (HB12.out.1.trans ((below_regrown Z d os).mono HB12.out.1.size))) hU)
      have HQ4 : Hid (∀ d os, Calls Tryd.prog 19 #[tv (n : Int) S] (grow (redrawn Z d) os) fun e w'' => e = .returned (.string (KY S)) ∧ ∃ p : Regrown, w'' = grow (redrawn Z p.d) p.os) := fun d os => Calls.regrown_of (HKS.out _)
      have HQ5 : Hid (∀ d os U, (U = S ∨ U = C ∨ U = X ∨ U = Ff ∨ U = Gg) → Calls Tryd.prog 11 #[tv (n : Int) U] (grow (redrawn Z d) os) fun e w'' => e = .returned (.int .i64 ((CU U : Nat) : Int)) ∧ ∃ p : Regrown, w'' = grow (redrawn Z p.d) p.os) := fun d os U hU => Calls.regrown_of (HCU.out _ U hU)
      have hwS : IntKind.i64.wrap ((CU S : Nat) : Int) = ((CU S : Nat) : Int) := by rw [IntKind.wrap_i64] <;> omega
      have hwX : IntKind.i64.wrap ((CU X : Nat) : Int) = ((CU X : Nat) : Int) := by rw [IntKind.wrap_i64] <;> omega
      have hss : (S.toList == S.toList) = true := by simp
      have hxx : (X.toList == X.toList) = true := by simp
      have hky : ((KY S).toList == (KY S).toList) = true := by simp
      obtain ⟨bb, hST, hKK⟩ : ∃ bb : Bool, (S.toList == T.toList) = bb ∧ ((KY S).toList == (KY T).toList) = bb := by
        by_cases e : S = T
        · exact ⟨true, by rw [e]; simp, by rw [HKE.out.2 e]; simp⟩
        · exact ⟨false, by rw [Ss1.eqb]; exact decide_eq_false fun h => e (Ss1.tl_inj h), by rw [Ss1.eqb]; exact decide_eq_false fun h => e (HKE.out.1 (Ss1.tl_inj h))⟩
      have HZ : Hid (Below w.heap.size w Z) := HB12.out.1
      clear HBy HTK hs hsl HA1 hSz hTz hS hT HB0 HB1 HB2 HB3 HB4 HB5 HB6 HB7 HB8 HB9 HB10 HB11 HB12 HC1 HC2 HC3 HC4 HC5 HC6 HC7 HN1 HN2 HN3 HCU HKY HKS HKE hn
      cases bb
      all_goals
        refine wp_region_quiet_below (by kernel_rfl) (by kernel_rfl) ?_
        repeat (go_big_quiet_step ((first | (go_at_call 18; first | exact HQ1.out _ _ | exact HQ2.out _ _) | (go_at_call 12; exact HQ3.out _ _ _ (by first | exact Or.inl rfl | exact Or.inr rfl)) | (go_at_call 19; exact HQ4.out _ _) | (go_at_call 11; exact HQ5.out _ _ _ (by first | exact Or.inl rfl | exact Or.inr (Or.inl rfl) | exact Or.inr (Or.inr (Or.inl rfl)) | exact Or.inr (Or.inr (Or.inr (Or.inl rfl))) | exact Or.inr (Or.inr (Or.inr (Or.inr rfl))))))))
        refine wpQuiet_nil ?_
        intro w9 hw9
        obtain ⟨pp, hw8⟩ := hw9
        subst hw8
        go_wp2
        go_ret
        exact ⟨rfl, HZ.out.trans ((below_regrown Z pp.d pp.os).mono HZ.out.size)⟩

end Go.Proofs.YtkcbonocbdfbcaaDoor.Ll1
