/- Small texts of mine, one behind the other. -/
import Derived.Deep.RegionHeld3
import Derived.Deep.CutBlock
import Derived.Test.YtiojfommmmggoaaPkDE38
import Derived.Test.YtiojfommmmggoaaPkDE3
import Derived.Test.YtiojfommmmggoaaDp3
import Derived.Test.YtiojfommmmggoaaPkDE35
import Derived.Test.YtiojfommmmggoaaPkDE34
import Derived.Test.YtiojfommmmggoaaPkDE28
/- The model's functions over tables: needs. -/
namespace Go.Proofs.Ytiojfommmmggoaa.Td5
open Go.RowKit
open Ta0 Ta1 Ta2 Tc2 Tc5 Td1 Td2 Ap0
open Nd0 (Kept Ints WInts set_other set_same lt_of_cell)
open Ss0 (bs bs_size bs_ext)
open Ss1 (tl tl_length tl_get tl_take tl_bs)
set_option linter.unusedVariables false

end Go.Proofs.Ytiojfommmmggoaa.Td5

/- The program's functions over tables: needs. -/
namespace Go.Proofs.Ytiojfommmmggoaa.Te4
open Go.RowKit
open Ta0 Ta1 Ta2 Tc2 Tc4 Tc5 Tc6 Tc7 Tc8 Td1 Td2 Td5 Te1 Ap0
open Nd0 (Kept Ints WInts set_other set_same lt_of_cell)
open Ss0 (bs bs_size bs_ext)
open Ss1 (tl tl_length tl_get tl_take tl_bs)
set_option linter.unusedVariables false

end Go.Proofs.Ytiojfommmmggoaa.Te4

/- The program's ruledBy. -/
namespace Go.Proofs.Ytiojfommmmggoaa.Dp4
open Go.RowKit
open Ta0 Ta1 Tc2 Tc4 Tc5 Dv0 Dp1 Dp3 Te1
open Nd0 (Kept set_other set_same lt_of_cell)
open Nd6 (Bools)
open Ss0 (bs bs_size)
open Ss1 (tl)
set_option linter.unusedVariables false

structure L3 (W : World) (b : Nat) (x y z : Value) : Prop where
  c0 : W.cell? ⟨b, 0, none⟩ = some x
  c1 : W.cell? ⟨b, 1, none⟩ = some y
  c2 : W.cell? ⟨b, 2, none⟩ = some z
  f0 : W.frozen? ⟨b, 0, none⟩ = false
  f1 : W.frozen? ⟨b, 1, none⟩ = false
  f2 : W.frozen? ⟨b, 2, none⟩ = false
theorem L3.lt {W : World} {b : Nat} {x y z : Value} (h : L3 W b x y z) : b < W.heap.size := World.block_lt_of_cell? _ _ h.c0
theorem L3.kept {W W' : World} {b : Nat} {x y z : Value} (h : L3 W b x y z) {S : Nat → Prop} (k : Kept S W W') (hs : ¬ S b) : L3 W' b x y z :=
  ⟨by rw [k.cell (p := ⟨b, 0, none⟩) h.lt hs]; exact h.c0, by rw [k.cell (p := ⟨b, 1, none⟩) h.lt hs]; exact h.c1, by rw [k.cell (p := ⟨b, 2, none⟩) h.lt hs]; exact h.c2, by rw [k.frozen (p := ⟨b, 0, none⟩) h.lt hs]; exact h.f0, by rw [k.frozen (p := ⟨b, 1, none⟩) h.lt hs]; exact h.f1, by rw [k.frozen (p := ⟨b, 2, none⟩) h.lt hs]; exact h.f2⟩
theorem L3.below {W W' : World} {b : Nat} {x y z : Value} (h : L3 W b x y z) (k : Below W.heap.size W W') : L3 W' b x y z :=
  h.kept (S := fun _ => False) (Kept.ofBelow k) (fun h => h)
theorem L3.made (W : World) (x y z : Value) (T : Nat) : L3 (W.alloc (.cells #[x, y, z] T)) W.heap.size x y z := ⟨by simp, by simp, by simp, by simp, by simp, by simp⟩
theorem fin3 {w W : World} {b : Nat} {x y z : Value} (h : L3 W b x y z) (hB : Below w.heap.size w W) (hb : w.heap.size ≤ b) (u v t : Value) :
    ∃ W', W' = ((W.setCell ⟨b, 0, none⟩ u).setCell ⟨b, 1, none⟩ v).setCell ⟨b, 2, none⟩ t ∧ W'.cell? ⟨b, 0, none⟩ = some u ∧ W'.cell? ⟨b, 1, none⟩ = some v ∧ W'.cell? ⟨b, 2, none⟩ = some t ∧ Below w.heap.size w W' ∧ Kept (fun i => i = b) W W' := by
  have HK : Kept (fun i => i = b) W (((W.setCell ⟨b, 0, none⟩ u).setCell ⟨b, 1, none⟩ v).setCell ⟨b, 2, none⟩ t) := kset (S := fun i => i = b) (kset (S := fun i => i = b) (kset (S := fun i => i = b) (Kept.refl (fun i => i = b) W) rfl _) rfl _) rfl _
  refine ⟨_, rfl, ?_, ?_, ?_, hB.trans (HK.below (B := w.heap.size) (fun i hi => by omega) hB.size), HK⟩
  · rw [set_other (by simp), set_other (by simp)]; exact set_same h.c0
  · rw [set_other (by simp)]; exact set_same (by rw [set_other (by simp)]; exact h.c1)
  · exact set_same (by rw [set_other (by simp), set_other (by simp)]; exact h.c2)

abbrev rv0 : Value := .agg #[.slice none 0 0, .int .i64 0, .slice none 0 0]

set_option maxRecDepth 100000 in
set_option maxHeartbeats 4000000 in
theorem iRuled0 {N : Int} {S : ByteArray} (ra : Option Addr) (L c : Nat) (w : World) (hS : S.size ≤ 1048576) (h : ¬ (tokB N (tl S) = true ∧ (L : Int) = N)) :
    Calls Try.prog 29 #[.slice ra L c, tv N S] w fun e w' => e = .returned (.tuple #[rv0, .bool false]) ∧ Below w.heap.size w w' := by
  have HA : Hid (Below w.heap.size w ((w.alloc (.cells #[.int .i64 N, .string S] 30)).alloc (.cells #[.slice none 0 0, .int .i64 0, .slice none 0 0] 66))) := ((Below.refl _ _).alloc (Nat.le_refl _) _).alloc (by simp) _
  have HX : Hid (Lay ((w.alloc (.cells #[.int .i64 N, .string S] 30)).alloc (.cells #[.slice none 0 0, .int .i64 0, .slice none 0 0] 66)) w.heap.size (.int .i64 N) (.string S)) := (Lay.made _ _ _ _).alloc _
  have HR : Hid (L3 ((w.alloc (.cells #[.int .i64 N, .string S] 30)).alloc (.cells #[.slice none 0 0, .int .i64 0, .slice none 0 0] 66)) (w.heap.size + 1) (.slice none 0 0) (.int .i64 0) (.slice none 0 0)) := by
    have := L3.made (w.alloc (.cells #[.int .i64 N, .string S] 30)) (.slice none 0 0) (.int .i64 0) (.slice none 0 0) 66
    show L3 _ _ _ _ _
    simpa using this
  cases h1 : tokB N (tl S)
  · have HO : Hid (∀ W, Calls Try.prog 34 #[tv N S] W fun e w' => e = .returned (.bool false) ∧ Below W.heap.size W w') := fun W => iOk0 W hS h1
    clear h h1
    go_enter Try.func29, Try.ntmps29
    go_wp2_with fail
    refine (HO.out _).mono ?_
    rintro e w1 ⟨rfl, hb⟩
    have HA1 : Hid (Below w.heap.size w w1) := HA.out.trans (hb.mono HA.out.size)
    have HR1 : Hid (L3 w1 (w.heap.size + 1) (.slice none 0 0) (.int .i64 0) (.slice none 0 0)) := HR.out.below hb
    clear hb
    obtain ⟨r0, r1, r2, r3, r4, r5⟩ := HR1.out
    have HFN : Hid _ := fin3 HR1.out HA1.out (by omega) (.slice none 0 0) (.int .i64 0) (.slice none 0 0)
    go_wp2
    obtain ⟨W, hW, z0, z1, z2, hbz, _⟩ := HFN.out
    rw [← hW]
    exact bodyPost_ret (v := .tuple #[rv0, .bool false]) (by simp [results, Try.results29, go_sem, z0, z1, z2]) rfl ⟨rfl, hbz⟩
  · have HO : Hid (∀ W, Calls Try.prog 34 #[tv N S] W fun e w' => e = .returned (.bool true) ∧ Below W.heap.size W w') := fun W => by
      have := iTableOk N S W hS
      rwa [h1] at this
    have hne : ((L : Int) != N) = true := bne_iff_ne.2 fun e => h ⟨h1, e⟩
    clear h h1
    go_enter Try.func29, Try.ntmps29
    go_wp2_with fail
    refine (HO.out _).mono ?_
    rintro e w1 ⟨rfl, hb⟩
    have HA1 : Hid (Below w.heap.size w w1) := HA.out.trans (hb.mono HA.out.size)
    have HR1 : Hid (L3 w1 (w.heap.size + 1) (.slice none 0 0) (.int .i64 0) (.slice none 0 0)) := HR.out.below hb
    obtain ⟨x0, x1, _, _⟩ := HX.out.below hb
    clear hb
    obtain ⟨r0, r1, r2, r3, r4, r5⟩ := HR1.out
    have HFN : Hid _ := fin3 HR1.out HA1.out (by omega) (.slice none 0 0) (.int .i64 0) (.slice none 0 0)
    go_wp2
    obtain ⟨W, hW, z0, z1, z2, hbz, _⟩ := HFN.out
    rw [← hW]
    exact bodyPost_ret (v := .tuple #[rv0, .bool false]) (by simp [results, Try.results29, go_sem, z0, z1, z2]) rfl ⟨rfl, hbz⟩

set_option maxRecDepth 100000 in
set_option maxHeartbeats 4000000 in
theorem iRuled (n : Nat) (F : Nat → Bool) (ra : Option Addr) (c : Nat) (w : World) (hn : n ≤ 12) :
    Calls Try.prog 29 #[.slice ra n c, tv (n : Int) (bs (tab n F))] w fun e w' => ∃ g, e = .returned (.tuple #[rv ra c n (nw n) g, .bool true]) ∧ w.heap.size ≤ g ∧ Wds w' g (nw n) (upto (2 ^ n) F) ∧ Below w.heap.size w w' := by
  have HO : Hid (∀ W, Calls Try.prog 34 #[tv (n : Int) (bs (tab n F))] W fun e w' => e = .returned (.bool true) ∧ Below W.heap.size W w') := fun W => iOk1 n F W hn
  have HPK : Hid (∀ W, Calls Try.prog 35 #[tv (n : Int) (bs (tab n F))] W fun e w' => ∃ g, e = .returned (pv n (nw n) g) ∧ W.heap.size ≤ g ∧ Wds w' g (nw n) (upto (2 ^ n) F) ∧ Below W.heap.size W w') := fun W => pack n F W hn
  generalize bs (tab n F) = S at *
  generalize upto (2 ^ n) F = F1 at *
  have hm1 := (nw_le hn).1
  generalize nw n = m at *
  have HA : Hid (Below w.heap.size w ((w.alloc (.cells #[.int .i64 (n : Int), .string S] 30)).alloc (.cells #[.slice none 0 0, .int .i64 0, .slice none 0 0] 66))) := ((Below.refl _ _).alloc (Nat.le_refl _) _).alloc (by simp) _
  have HX : Hid (Lay ((w.alloc (.cells #[.int .i64 (n : Int), .string S] 30)).alloc (.cells #[.slice none 0 0, .int .i64 0, .slice none 0 0] 66)) w.heap.size (.int .i64 (n : Int)) (.string S)) := (Lay.made _ _ _ _).alloc _
  have HR : Hid (L3 ((w.alloc (.cells #[.int .i64 (n : Int), .string S] 30)).alloc (.cells #[.slice none 0 0, .int .i64 0, .slice none 0 0] 66)) (w.heap.size + 1) (.slice none 0 0) (.int .i64 0) (.slice none 0 0)) := by
    have := L3.made (w.alloc (.cells #[.int .i64 (n : Int), .string S] 30)) (.slice none 0 0) (.int .i64 0) (.slice none 0 0) 66
    show L3 _ _ _ _ _
    simpa using this
  go_enter Try.func29, Try.ntmps29
  go_wp2_with fail
  refine (HO.out _).mono ?_
  rintro e w1 ⟨rfl, hb⟩
  have HA1 : Hid (Below w.heap.size w w1) := HA.out.trans (hb.mono HA.out.size)
  have HR1 : Hid (L3 w1 (w.heap.size + 1) (.slice none 0 0) (.int .i64 0) (.slice none 0 0)) := HR.out.below hb
  obtain ⟨x0, x1, _, _⟩ := HX.out.below hb
  clear hb
  go_wp2_with fail
  refine (HPK.out _).mono ?_
  rintro e w2 ⟨g, rfl, hg, hw, hb⟩
  have HA2 : Hid (Below w.heap.size w w2) := HA1.out.trans (hb.mono HA1.out.size)
  have HR2 : Hid (L3 w2 (w.heap.size + 1) (.slice none 0 0) (.int .i64 0) (.slice none 0 0)) := HR1.out.below hb
  have HG : Hid (w.heap.size + 1 < g) := Nat.lt_of_lt_of_le HR1.out.lt hg
  have HW : Hid (Wds w2 g m F1) := hw
  clear hb x0 x1 hg hw
  obtain ⟨r0, r1, r2, r3, r4, r5⟩ := HR2.out
  have HFN : Hid _ := fin3 HR2.out HA2.out (by omega) (.slice ra n c) (.int .i64 (n : Int)) (.slice (some ⟨g, 0, none⟩) m m)
  go_wp2
  obtain ⟨W, hW, z0, z1, z2, hbz, hkz⟩ := HFN.out
  rw [← hW]
  exact bodyPost_ret (v := .tuple #[rv ra c n m g, .bool true]) (by simp [results, Try.results29, go_sem, z0, z1, z2]) rfl ⟨g, rfl, by have := HG.out; omega, HW.out.kept hkz (by have := HG.out; omega), hbz⟩


set_option maxRecDepth 100000 in
set_option maxHeartbeats 4000000 in
theorem iDecide0 {N : Int} {S : ByteArray} (ra : Option Addr) (L c : Nat) (w : World) (hS : S.size ≤ 1048576) (h : ¬ (tokB N (tl S) = true ∧ (L : Int) = N)) :
    Calls Try.prog 9 #[.slice ra L c, tv N S] w fun e w' => e = .returned (.tuple #[.int .i64 0, .bool false]) ∧ Below w.heap.size w w' := by
  have HA : Hid (Below w.heap.size w (w.alloc (.cells #[.int .i64 N, .string S] 30))) := (Below.refl _ _).alloc (Nat.le_refl _) _
  have HRU : Hid (∀ W, Calls Try.prog 29 #[.slice ra L c, tv N S] W fun e w' => e = .returned (.tuple #[rv0, .bool false]) ∧ Below W.heap.size W w') := fun W => iRuled0 ra L c W hS h
  clear h
  go_enter Try.func9, Try.ntmps9
  go_wp2_with fail
  refine (HRU.out _).mono ?_
  rintro e w1 ⟨rfl, hb⟩
  have HA1 : Hid (Below w.heap.size w w1) := HA.out.trans (hb.mono HA.out.size)
  clear hb
  have HA2 : Hid (Below w.heap.size w (w1.alloc (.cells #[.slice none 0 0, .int .i64 0, .slice none 0 0] 66))) := HA1.out.alloc HA1.out.size _
  go_wp2
  go_ret2
  exact ⟨rfl, HA2.out⟩

theorem dcAt_upto {row : List Bool} {n : Nat} (F : Nat → Bool) (h : row.length = n) {k p : Nat} (hk : k ≤ n) (hp : p < 2 ^ k) : dcAt row (upto (2 ^ n) F) k p = dcAt row F k p := by
  subst h
  exact dcAt_ext row (fun q hq => by simp [upto, hq]) hk hp

set_option maxRecDepth 100000 in
set_option maxHeartbeats 4000000 in
theorem iDecide (n : Nat) (F : Nat → Bool) (ra : Option Addr) (row : List Bool) (c : Nat) (w : World) (hn : n ≤ 12) (hrn : row.length = n) (hB : Bools w ra row) :
    Calls Try.prog 9 #[.slice ra n c, tv (n : Int) (bs (tab n F))] w fun e w' => e = .returned (.tuple #[.int .i64 ((De0.dc row F).toNat : Int), .bool true]) ∧ Below w.heap.size w w' := by
  have HRU : Hid (∀ W, Calls Try.prog 29 #[.slice ra n c, tv (n : Int) (bs (tab n F))] W fun e w' => ∃ g, e = .returned (.tuple #[rv ra c n (nw n) g, .bool true]) ∧ W.heap.size ≤ g ∧ Wds w' g (nw n) (upto (2 ^ n) F) ∧ Below W.heap.size W w') := fun W => iRuled n F ra c W hn
  have HV : Hid (∀ (W : World) (g : Nat), Below w.heap.size w W → Wds W g (nw n) (upto (2 ^ n) F) → Calls Try.prog 30 #[rv ra c n (nw n) g, .int .i64 0, .int .i64 0] W fun e w' => e = .returned (.int .i64 ((De0.dc row F).toNat : Int)) ∧ Below W.heap.size W w') := fun W g h1 h2 => by
    have := verdict (row := row) (G := upto (2 ^ n) F) (ra := ra) (c := c) (g := g) hn hrn n (Nat.le_refl _)
    rw [Nat.sub_self] at this
    have := this W 0 (by simp) (hB.below h1) h2
    rw [dcAt_upto F hrn (Nat.zero_le _) (by simp), dcAt_0] at this
    exact this
  have HA : Hid (∀ S : ByteArray, Below w.heap.size w (w.alloc (.cells #[.int .i64 (n : Int), .string S] 30))) := fun S => (Below.refl _ _).alloc (Nat.le_refl _) _
  clear hB
  generalize bs (tab n F) = S at *
  generalize upto (2 ^ n) F = F1 at *
  generalize nw n = m at *
  generalize De0.dc row F = r at *
  go_enter Try.func9, Try.ntmps9
  go_wp2_with fail
  refine (HRU.out _).mono ?_
  rintro e w1 ⟨g, rfl, hg, hw, hb⟩
  have HA1 : Hid (Below w.heap.size w w1) := (HA.out S).trans (hb.mono (HA.out S).size)
  have HA2 : Hid (Below w.heap.size w (w1.alloc (.cells #[.slice ra n c, .int .i64 (n : Int), .slice (some ⟨g, 0, none⟩) m m] 66))) := HA1.out.alloc HA1.out.size _
  have HW : Hid (Wds (w1.alloc (.cells #[.slice ra n c, .int .i64 (n : Int), .slice (some ⟨g, 0, none⟩) m m] 66)) g m F1) := hw.below ((Below.refl _ _).alloc (Nat.le_refl _) _)
  clear hb hw hg
  go_wp2_with (go_at_call 30; refine (HV.out _ g HA2.out HW.out).mono ?_; rintro e w3 ⟨rfl, hb3⟩; have HB3 : Hid (Below w.heap.size w w3) := HA2.out.trans (hb3.mono HA2.out.size); clear hb3)
  go_ret2
  exact ⟨rfl, HB3.out⟩

end Go.Proofs.Ytiojfommmmggoaa.Dp4

/- Rows of flags: copied, turned, owned. -/
namespace Go.Proofs.Ytiojfommmmggoaa.Dq0
open Go.RowKit
open Nd0 Nd1 Nd2 Nd3 Ap1 Nd6

set_option linter.unusedVariables false

def mapTo (f : Bool → Bool) (l : List Bool) (k : Nat) : List Bool := (l.take k).map f
theorem mapTo_next {f : Bool → Bool} {l : List Bool} {k : Nat} (h : k < l.length) : mapTo f l (k + 1) = mapTo f l k ++ [f l[k]] := by
  unfold mapTo
  rw [List.take_succ_eq_append_getElem h, List.map_append]
  rfl
theorem mapTo_len {f : Bool → Bool} {l : List Bool} {k : Nat} (h : k ≤ l.length) : (mapTo f l k).length = k := by
  unfold mapTo
  rw [List.length_map, List.length_take]
  omega
def turnL (l : List Bool) : List Bool := l.map not
theorem turnL_length (l : List Bool) : (turnL l).length = l.length := List.length_map ..
theorem mapTo_all {f : Bool → Bool} {l : List Bool} {k : Nat} (h : ¬ k < l.length) : mapTo f l k = l.map f := by
  unfold mapTo
  rw [List.take_of_length_le (by omega)]

set_option maxRecDepth 100000 in
set_option maxHeartbeats 2000000 in
theorem iTurned (w : World) (a : Option Addr) (l : List Bool) (c : Nat) (hN : Bools w a l) (hl : l.length ≤ 1048576) :
    Calls Try.prog 12 #[.slice a l.length c] w fun e w' => (∃ a' c', e = .returned (.slice a' (turnL l).length c') ∧ WBools w' w.heap.size a' (turnL l)) ∧ Below w.heap.size w w' := by
  have HN : Hid (Bools w a l) := hN
  clear hN
  have HAL : Hid (Below w.heap.size w (w.alloc (.cells #[] 4))) := (Below.refl _ _).alloc (Nat.le_refl _) _
  have HO0 : Hid (Owb (w.alloc (.cells #[] 4)) w.heap.size (.slice (some ⟨w.heap.size, 0, none⟩) 0 0) []) := Owb.lit w _ (Nat.le_refl _)
  go_enter Try.func12, Try.ntmps12
  go_wp2
  go_loopw [3, 9] (fun v i wr => ∃ k : Nat, k ≤ l.length ∧ i = .int .i64 k ∧ Owb wr w.heap.size v (mapTo not l k) ∧ Below w.heap.size w wr) (fun _ i _ => l.length - (intOf i).toNat)
  case atStart => exact ⟨0, Nat.zero_le _, rfl, HO0.out, HAL.out⟩
  case round =>
    obtain ⟨k, hk, rfl, ho, hb⟩ := hrel
    have HO : Hid (Owb wr w.heap.size u3 (mapTo not l k)) := ho
    have HB : Hid (Below w.heap.size w wr) := hb
    clear ho
    by_cases hlt : k < l.length
    · have HC := HN.out.below hb
      have hsz : w.heap.size ≤ wr.heap.size := hb.size
      clear hb
      rcases HC.2 with h0 | ⟨xb, xo, rfl, hc⟩
      · omega
      have p0 := hc k hlt
      clear hc HC
      have hlz : (k : Int) < (l.length : Int) := by omega
      have HT : Hid (mapTo not l (k + 1) = mapTo not l k ++ [!l[k]]) := mapTo_next hlt
      have HL : Hid ((mapTo not l k).length = k) := mapTo_len hk
      generalize l[k] = x at *
      go_wp2_with (at_builtin; go_must (refine app_bool _ rfl _ _ rfl w.heap.size u3 (mapTo not l k) (!x) rfl rfl HO.out hsz (by have := HL.out; omega) ?_; intro g5 cp5 w5 ho5 hk5 hg5; have HO5 : Hid (Owb w5 w.heap.size (.slice (some ⟨g5, 0, none⟩) ((mapTo not l k).length + 1) cp5) (mapTo not l k ++ [!x])) := ho5; have HB5 : Hid (Below w.heap.size w w5) := HB.out.trans (hk5.below (fun b hb => (HO.out.lt _ hb).1) HB.out.size); clear ho5 hk5 hg5))
      go_roundw
      case rel => exact ⟨k + 1, by omega, by go_num, by rw [HT.out]; exact HO5.out, HB5.out⟩
      case measure => simp [intOf]; omega
    · have HE : Hid (mapTo not l k = turnL l) := mapTo_all hlt
      obtain ⟨av, cv, hv, hwb⟩ := HO.out.form
      rw [HE.out] at hv hwb
      subst hv
      have HW : Hid (WBools wr w.heap.size av (turnL l)) := hwb
      clear hwb hb HO
      go_wp2
      go_ret
      exact ⟨⟨_, _, rfl, HW.out⟩, HB.out⟩

end Go.Proofs.Ytiojfommmmggoaa.Dq0

/- The model's verdict. -/
namespace Go.Proofs.Ytiojfommmmggoaa.Dm1
open Go.RowKit
open Ta0 Ta1 Ta2 Ta3 Tc2 Tc5 Td1 Td2 Td4 De0 Dv0
open Nd0 (Kept set_other set_same lt_of_cell)
open Nd6 (Bools)
open Ss0 (bs bs_size)
open Ss1 (tl)
set_option linter.unusedVariables false

set_option maxRecDepth 100000 in
set_option maxHeartbeats 4000000 in
theorem sOkR (n : Nat) (F : Nat → Bool) (ra : Option Addr) (c : Nat) (w : World) (hn : n ≤ 12) :
    Calls Try.prog 38 #[.slice ra n c, tv (n : Int) (bs (tab n F))] w fun e w' => e = .returned (.bool true) ∧ Below w.heap.size w w' := by
  have HO : Hid (∀ W, Calls Try.prog 58 #[tv (n : Int) (bs (tab n F))] W fun e w' => e = .returned (.bool true) ∧ Below W.heap.size W w') := fun W => sOk1 n F W hn
  generalize bs (tab n F) = S at *
  have HA : Hid (Below w.heap.size w (w.alloc (.cells #[.int .i64 (n : Int), .string S] 30))) := (Below.refl _ _).alloc (Nat.le_refl _) _
  have HX : Hid (Lay (w.alloc (.cells #[.int .i64 (n : Int), .string S] 30)) w.heap.size (.int .i64 (n : Int)) (.string S)) := Lay.made _ _ _ _
  go_enter Try.func38, Try.ntmps38
  go_wp2_with fail
  refine (HO.out _).mono ?_
  rintro e w1 ⟨rfl, hb⟩
  have HA1 : Hid (Below w.heap.size w w1) := HA.out.trans (hb.mono HA.out.size)
  obtain ⟨x0, x1, _, _⟩ := HX.out.below hb
  clear hb
  go_wp2
  go_ret
  exact ⟨rfl, HA1.out⟩

def MD (row : List Bool) : Prop := ∀ (F : Nat → Bool) (W : World) (a : Option Addr) (c : Nat), Bools W a row → row.length ≤ c → Calls Try.prog 39 #[.slice a row.length c, tv (row.length : Int) (bs (tab row.length F))] W fun e w' => e = .returned (.int .i64 ((dc row F).toNat : Int)) ∧ Below W.heap.size W w'

set_option maxRecDepth 100000 in
set_option maxHeartbeats 2000000 in
theorem md_nil : MD [] := by
  intro F w a c hB hc
  have HG : Hid (Sg (bs (tab 0 F)) (2 ^ 0) F) := sg_tab 0 F
  show Calls Try.prog 39 #[.slice a 0 c, tv 0 (bs (tab 0 F))] w fun e w' => e = .returned (.int .i64 ((F 0).toNat : Int)) ∧ Below w.heap.size w w'
  generalize bs (tab 0 F) = S at *
  have hs : 0 < S.size := by rw [HG.out.size]; simp
  have h9 := HG.out.at_ 0 hs
  have HB0 : Hid (Below w.heap.size w (w.alloc (.cells #[.int .i64 0, .string S] 30))) := (Below.refl _ _).alloc (Nat.le_refl _) _
  clear hB hc
  have hsz : (0 : Int) < (S.size : Int) := by omega
  cases hF : F 0
  all_goals
    rw [hF] at h9
    clear hF
    simp only [Bool.toNat_false, Bool.toNat_true, Int.natCast_zero, Int.natCast_one] at h9
    go_enter Try.func39, Try.ntmps39
    go_wp2
    go_ret
    exact ⟨rfl, HB0.out⟩

theorem bools_tail {W : World} {a : Option Addr} {q : Bool} {r : List Bool} {c : Nat} (h : Bools W a (q :: r)) (hc : r.length + 1 ≤ c) : ∃ b o, a = some ⟨b, o, none⟩ ∧ W.cell? ⟨b, o, none⟩ = some (.bool q) ∧ ∃ t, t = (if c = 1 then o else o + 1) ∧ Bools W (some ⟨b, t, none⟩) r := by
  rcases h.2 with h0 | ⟨b, o, ha, hx⟩
  · simp at h0
  · refine ⟨b, o, ha, hx 0 (by simp), _, rfl, ?_⟩
    refine ⟨by have := h.1; simp at this; omega, ?_⟩
    by_cases e : r.length = 0
    · exact .inl e
    · rw [if_neg (by omega)]
      refine .inr ⟨b, o + 1, rfl, fun i hi => ?_⟩
      have := hx (i + 1) (by simpa using hi)
      rw [show o + 1 + i = o + (i + 1) by omega]
      simpa using this

end Go.Proofs.Ytiojfommmmggoaa.Dm1
