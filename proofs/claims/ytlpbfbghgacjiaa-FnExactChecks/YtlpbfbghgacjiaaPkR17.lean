/- Small texts of mine, one behind the other. -/
import Derived.Test.YtlpbfbghgacjiaaPkR16
import Derived.Test.YtlpbfbghgacjiaaPkR11
import Derived.Test.YtlpbfbghgacjiaaPkR2
import Derived.Test.YtlpbfbghgacjiaaPkR10
import Derived.Test.YtlpbfbghgacjiaaPkR6
/- The program's ruledBy. -/
namespace Go.Proofs.Ytlpbfbghgacjiaa.Dp4
open Go.RowKit
open Ta0 Ta1 Tc2 Tc4 Tc5 Dv0 Dp1 Dp3 Te1
open Nd0 (Kept set_other set_same lt_of_cell)
open Nd6 (Bools)
open Ss0 (bs bs_size)
open Ss1 (tl)
set_option linter.unusedVariables false

/-- A block of three cells. -/
structure L3 (W : World) (b : Nat) (x y z : Value) : Prop where
  c0 : W.cell? ⟨b, 0, none⟩ = some x
  c1 : W.cell? ⟨b, 1, none⟩ = some y
  c2 : W.cell? ⟨b, 2, none⟩ = some z
  f0 : W.frozen? ⟨b, 0, none⟩ = false
  f1 : W.frozen? ⟨b, 1, none⟩ = false
  f2 : W.frozen? ⟨b, 2, none⟩ = false
theorem L3.lt {W : World} {b : Nat} {x y z : Value} (h : L3 W b x y z) : b < W.heap.size := World.block_lt_of_cell? _ _ h.c0
theorem L3.kept {W W' : World} {b : Nat} {x y z : Value} (h : L3 W b x y z) {S : Nat → Prop} (k : Kept S W W') (hs : ¬ S b) : L3 W' b x y z :=
  ⟨by rw [k.cell (p := ⟨b, 0, none⟩) h.lt hs]; exact h.c0, by rw [k.cell (p := ⟨b, 1, none⟩) h.lt hs]; exact h.c1, by rw [k.cell (p := ⟨b, 2, none⟩) h.lt hs]; exact h.c2, by rw [k.frozen (p := ⟨b, 0, none⟩) h.lt hs]; exact h.f0, by rw [k.frozen (p := ⟨b, 1, none⟩) h.lt hs]; exact h.f1, by rw [k.frozen (p := ⟨b, 2, none⟩) h.lt hs]; exact h.f2⟩
theorem L3.below {W W' : World} {b : Nat} {x y z : Value} (h : L3 W b x y z) (k : Below W.heap.size W W') : L3 W' b x y z :=
  h.kept (S := fun _ => False) (Kept.ofBelow k) (fun h => h)
theorem L3.made (W : World) (x y z : Value) (T : Nat) : L3 (W.alloc (.cells #[x, y, z] T)) W.heap.size x y z := ⟨by simp, by simp, by simp, by simp, by simp, by simp⟩
theorem fin3 {w W : World} {b : Nat} {x y z : Value} (h : L3 W b x y z) (hB : Below w.heap.size w W) (hb : w.heap.size ≤ b) (u v t : Value) :
    ∃ W', W' = ((W.setCell ⟨b, 0, none⟩ u).setCell ⟨b, 1, none⟩ v).setCell ⟨b, 2, none⟩ t ∧ W'.cell? ⟨b, 0, none⟩ = some u ∧ W'.cell? ⟨b, 1, none⟩ = some v ∧ W'.cell? ⟨b, 2, none⟩ = some t ∧ Below w.heap.size w W' ∧ Kept (fun i => i = b) W W' := by
  have HK : Kept (fun i => i = b) W (((W.setCell ⟨b, 0, none⟩ u).setCell ⟨b, 1, none⟩ v).setCell ⟨b, 2, none⟩ t) := kset (S := fun i => i = b) (kset (S := fun i => i = b) (kset (S := fun i => i = b) (Kept.refl (fun i => i = b) W) rfl _) rfl _) rfl _
  refine ⟨_, rfl, ?_, ?_, ?_, hB.trans (HK.below (B := w.heap.size) (fun i hi => by omega) hB.size), HK⟩
  · rw [set_other (by simp), set_other (by simp)]; exact set_same h.c0
  · rw [set_other (by simp)]; exact set_same (by rw [set_other (by simp)]; exact h.c1)
  · exact set_same (by rw [set_other (by simp), set_other (by simp)]; exact h.c2)

/-- The zero ruled table. -/
abbrev rv0 : Value := .agg #[.slice none 0 0, .int .i64 0, .slice none 0 0]

set_option maxRecDepth 100000 in
set_option maxHeartbeats 4000000 in
theorem iRuled0 {N : Int} {S : ByteArray} (ra : Option Addr) (L c : Nat) (w : World) (hS : S.size ≤ 1048576) (h : ¬ (tokB N (tl S) = true ∧ (L : Int) = N)) :
    Calls Try.prog 78 #[.slice ra L c, tv N S] w fun e w' => e = .returned (.tuple #[rv0, .bool false]) ∧ Below w.heap.size w w' := by
  have HA : Hid (Below w.heap.size w ((w.alloc (.cells #[.int .i64 N, .string S] 26)).alloc (.cells #[.slice none 0 0, .int .i64 0, .slice none 0 0] 114))) := ((Below.refl _ _).alloc (Nat.le_refl _) _).alloc (by simp) _
  have HX : Hid (Lay ((w.alloc (.cells #[.int .i64 N, .string S] 26)).alloc (.cells #[.slice none 0 0, .int .i64 0, .slice none 0 0] 114)) w.heap.size (.int .i64 N) (.string S)) := (Lay.made _ _ _ _).alloc _
  have HR : Hid (L3 ((w.alloc (.cells #[.int .i64 N, .string S] 26)).alloc (.cells #[.slice none 0 0, .int .i64 0, .slice none 0 0] 114)) (w.heap.size + 1) (.slice none 0 0) (.int .i64 0) (.slice none 0 0)) := by
    have := L3.made (w.alloc (.cells #[.int .i64 N, .string S] 26)) (.slice none 0 0) (.int .i64 0) (.slice none 0 0) 114
    show L3 _ _ _ _ _
    simpa using this
  cases h1 : tokB N (tl S)
  · have HO : Hid (∀ W, Calls Try.prog 92 #[tv N S] W fun e w' => e = .returned (.bool false) ∧ Below W.heap.size W w') := fun W => iOk0 W hS h1
    clear h h1
    go_enter Try.func78, Try.ntmps78
    go_wp2_with fail
    refine (HO.out _).mono ?_
    rintro e w1 ⟨rfl, hb⟩
    have HA1 : Hid (Below w.heap.size w w1) := HA.out.trans (hb.mono HA.out.size)
    have HR1 : Hid (L3 w1 (w.heap.size + 1) (.slice none 0 0) (.int .i64 0) (.slice none 0 0)) := HR.out.below hb
    clear hb
    obtain ⟨r0, r1, r2, r3, r4, r5⟩ := HR1.out
    have HFN : Hid _ := fin3 HR1.out HA1.out (by omega) (.slice none 0 0) (.int .i64 0) (.slice none 0 0)
    go_wp2
    obtain ⟨W, hW, z0, z1, z2, hbz, _⟩ := HFN.out
    rw [← hW]
    exact bodyPost_ret (v := .tuple #[rv0, .bool false]) (by simp [results, Try.results78, go_sem, z0, z1, z2]) rfl ⟨rfl, hbz⟩
  · have HO : Hid (∀ W, Calls Try.prog 92 #[tv N S] W fun e w' => e = .returned (.bool true) ∧ Below W.heap.size W w') := fun W => by
      have := iTableOk N S W hS
      rwa [h1] at this
    have hne : ((L : Int) != N) = true := bne_iff_ne.2 fun e => h ⟨h1, e⟩
    clear h h1
    go_enter Try.func78, Try.ntmps78
    go_wp2_with fail
    refine (HO.out _).mono ?_
    rintro e w1 ⟨rfl, hb⟩
    have HA1 : Hid (Below w.heap.size w w1) := HA.out.trans (hb.mono HA.out.size)
    have HR1 : Hid (L3 w1 (w.heap.size + 1) (.slice none 0 0) (.int .i64 0) (.slice none 0 0)) := HR.out.below hb
    obtain ⟨x0, x1, _, _⟩ := HX.out.below hb
    clear hb
    obtain ⟨r0, r1, r2, r3, r4, r5⟩ := HR1.out
    have HFN : Hid _ := fin3 HR1.out HA1.out (by omega) (.slice none 0 0) (.int .i64 0) (.slice none 0 0)
    go_wp2
    obtain ⟨W, hW, z0, z1, z2, hbz, _⟩ := HFN.out
    rw [← hW]
    exact bodyPost_ret (v := .tuple #[rv0, .bool false]) (by simp [results, Try.results78, go_sem, z0, z1, z2]) rfl ⟨rfl, hbz⟩

set_option maxRecDepth 100000 in
set_option maxHeartbeats 4000000 in
theorem iRuled (n : Nat) (F : Nat → Bool) (ra : Option Addr) (c : Nat) (w : World) (hn : n ≤ 12) :
    Calls Try.prog 78 #[.slice ra n c, tv (n : Int) (bs (tab n F))] w fun e w' => ∃ g, e = .returned (.tuple #[rv ra c n (nw n) g, .bool true]) ∧ w.heap.size ≤ g ∧ Wds w' g (nw n) (upto (2 ^ n) F) ∧ Below w.heap.size w w' := by
  have HO : Hid (∀ W, Calls Try.prog 92 #[tv (n : Int) (bs (tab n F))] W fun e w' => e = .returned (.bool true) ∧ Below W.heap.size W w') := fun W => iOk1 n F W hn
  have HPK : Hid (∀ W, Calls Try.prog 93 #[tv (n : Int) (bs (tab n F))] W fun e w' => ∃ g, e = .returned (pv n (nw n) g) ∧ W.heap.size ≤ g ∧ Wds w' g (nw n) (upto (2 ^ n) F) ∧ Below W.heap.size W w') := fun W => pack n F W hn
  generalize bs (tab n F) = S at *
  generalize upto (2 ^ n) F = F1 at *
  have hm1 := (nw_le hn).1
  generalize nw n = m at *
  have HA : Hid (Below w.heap.size w ((w.alloc (.cells #[.int .i64 (n : Int), .string S] 26)).alloc (.cells #[.slice none 0 0, .int .i64 0, .slice none 0 0] 114))) := ((Below.refl _ _).alloc (Nat.le_refl _) _).alloc (by simp) _
  have HX : Hid (Lay ((w.alloc (.cells #[.int .i64 (n : Int), .string S] 26)).alloc (.cells #[.slice none 0 0, .int .i64 0, .slice none 0 0] 114)) w.heap.size (.int .i64 (n : Int)) (.string S)) := (Lay.made _ _ _ _).alloc _
  have HR : Hid (L3 ((w.alloc (.cells #[.int .i64 (n : Int), .string S] 26)).alloc (.cells #[.slice none 0 0, .int .i64 0, .slice none 0 0] 114)) (w.heap.size + 1) (.slice none 0 0) (.int .i64 0) (.slice none 0 0)) := by
    have := L3.made (w.alloc (.cells #[.int .i64 (n : Int), .string S] 26)) (.slice none 0 0) (.int .i64 0) (.slice none 0 0) 114
    show L3 _ _ _ _ _
    simpa using this
  go_enter Try.func78, Try.ntmps78
  go_wp2_with fail
  refine (HO.out _).mono ?_
  rintro e w1 ⟨rfl, hb⟩
  have HA1 : Hid (Below w.heap.size w w1) := HA.out.trans (hb.mono HA.out.size)
  have HR1 : Hid (L3 w1 (w.heap.size + 1) (.slice none 0 0) (.int .i64 0) (.slice none 0 0)) := HR.out.below hb
  obtain ⟨x0, x1, _, _⟩ := HX.out.below hb
  clear hb
  go_wp2_with fail
  refine (HPK.out _).mono ?_
  rintro e w2 ⟨g, rfl, hg, hw, hb⟩
  have HA2 : Hid (Below w.heap.size w w2) := HA1.out.trans (hb.mono HA1.out.size)
  have HR2 : Hid (L3 w2 (w.heap.size + 1) (.slice none 0 0) (.int .i64 0) (.slice none 0 0)) := HR1.out.below hb
  have HG : Hid (w.heap.size + 1 < g) := Nat.lt_of_lt_of_le HR1.out.lt hg
  have HW : Hid (Wds w2 g m F1) := hw
  clear hb x0 x1 hg hw
  obtain ⟨r0, r1, r2, r3, r4, r5⟩ := HR2.out
  have HFN : Hid _ := fin3 HR2.out HA2.out (by omega) (.slice ra n c) (.int .i64 (n : Int)) (.slice (some ⟨g, 0, none⟩) m m)
  go_wp2
  obtain ⟨W, hW, z0, z1, z2, hbz, hkz⟩ := HFN.out
  rw [← hW]
  exact bodyPost_ret (v := .tuple #[rv ra c n m g, .bool true]) (by simp [results, Try.results78, go_sem, z0, z1, z2]) rfl ⟨g, rfl, by have := HG.out; omega, HW.out.kept hkz (by have := HG.out; omega), hbz⟩


set_option maxRecDepth 100000 in
set_option maxHeartbeats 4000000 in
theorem iDecide0 {N : Int} {S : ByteArray} (ra : Option Addr) (L c : Nat) (w : World) (hS : S.size ≤ 1048576) (h : ¬ (tokB N (tl S) = true ∧ (L : Int) = N)) :
    Calls Try.prog 45 #[.slice ra L c, tv N S] w fun e w' => e = .returned (.tuple #[.int .i64 0, .bool false]) ∧ Below w.heap.size w w' := by
  have HA : Hid (Below w.heap.size w (w.alloc (.cells #[.int .i64 N, .string S] 26))) := (Below.refl _ _).alloc (Nat.le_refl _) _
  have HRU : Hid (∀ W, Calls Try.prog 78 #[.slice ra L c, tv N S] W fun e w' => e = .returned (.tuple #[rv0, .bool false]) ∧ Below W.heap.size W w') := fun W => iRuled0 ra L c W hS h
  clear h
  go_enter Try.func45, Try.ntmps45
  go_wp2_with fail
  refine (HRU.out _).mono ?_
  rintro e w1 ⟨rfl, hb⟩
  have HA1 : Hid (Below w.heap.size w w1) := HA.out.trans (hb.mono HA.out.size)
  clear hb
  have HA2 : Hid (Below w.heap.size w (w1.alloc (.cells #[.slice none 0 0, .int .i64 0, .slice none 0 0] 114))) := HA1.out.alloc HA1.out.size _
  go_wp2
  go_ret2
  exact ⟨rfl, HA2.out⟩

theorem dcAt_upto {row : List Bool} {n : Nat} (F : Nat → Bool) (h : row.length = n) {k p : Nat} (hk : k ≤ n) (hp : p < 2 ^ k) : dcAt row (upto (2 ^ n) F) k p = dcAt row F k p := by
  subst h
  exact dcAt_ext row (fun q hq => by simp [upto, hq]) hk hp

set_option maxRecDepth 100000 in
set_option maxHeartbeats 4000000 in
theorem iDecide (n : Nat) (F : Nat → Bool) (ra : Option Addr) (row : List Bool) (c : Nat) (w : World) (hn : n ≤ 12) (hrn : row.length = n) (hB : Bools w ra row) :
    Calls Try.prog 45 #[.slice ra n c, tv (n : Int) (bs (tab n F))] w fun e w' => e = .returned (.tuple #[.int .i64 ((De0.dc row F).toNat : Int), .bool true]) ∧ Below w.heap.size w w' := by
  have HRU : Hid (∀ W, Calls Try.prog 78 #[.slice ra n c, tv (n : Int) (bs (tab n F))] W fun e w' => ∃ g, e = .returned (.tuple #[rv ra c n (nw n) g, .bool true]) ∧ W.heap.size ≤ g ∧ Wds w' g (nw n) (upto (2 ^ n) F) ∧ Below W.heap.size W w') := fun W => iRuled n F ra c W hn
  have HV : Hid (∀ (W : World) (g : Nat), Below w.heap.size w W → Wds W g (nw n) (upto (2 ^ n) F) → Calls Try.prog 79 #[rv ra c n (nw n) g, .int .i64 0, .int .i64 0] W fun e w' => e = .returned (.int .i64 ((De0.dc row F).toNat : Int)) ∧ Below W.heap.size W w') := fun W g h1 h2 => by
    have := verdict (row := row) (G := upto (2 ^ n) F) (ra := ra) (c := c) (g := g) hn hrn n (Nat.le_refl _)
    rw [Nat.sub_self] at this
    have := this W 0 (by simp) (hB.below h1) h2
    rw [dcAt_upto F hrn (Nat.zero_le _) (by simp), dcAt_0] at this
    exact this
  have HA : Hid (∀ S : ByteArray, Below w.heap.size w (w.alloc (.cells #[.int .i64 (n : Int), .string S] 26))) := fun S => (Below.refl _ _).alloc (Nat.le_refl _) _
  clear hB
  generalize bs (tab n F) = S at *
  generalize upto (2 ^ n) F = F1 at *
  generalize nw n = m at *
  generalize De0.dc row F = r at *
  go_enter Try.func45, Try.ntmps45
  go_wp2_with fail
  refine (HRU.out _).mono ?_
  rintro e w1 ⟨g, rfl, hg, hw, hb⟩
  have HA1 : Hid (Below w.heap.size w w1) := (HA.out S).trans (hb.mono (HA.out S).size)
  have HA2 : Hid (Below w.heap.size w (w1.alloc (.cells #[.slice ra n c, .int .i64 (n : Int), .slice (some ⟨g, 0, none⟩) m m] 114))) := HA1.out.alloc HA1.out.size _
  have HW : Hid (Wds (w1.alloc (.cells #[.slice ra n c, .int .i64 (n : Int), .slice (some ⟨g, 0, none⟩) m m] 114)) g m F1) := hw.below ((Below.refl _ _).alloc (Nat.le_refl _) _)
  clear hb hw hg
  go_wp2_with (go_at_call 79; refine (HV.out _ g HA2.out HW.out).mono ?_; rintro e w3 ⟨rfl, hb3⟩; have HB3 : Hid (Below w.heap.size w w3) := HA2.out.trans (hb3.mono HA2.out.size); clear hb3)
  go_ret2
  exact ⟨rfl, HB3.out⟩

end Go.Proofs.Ytlpbfbghgacjiaa.Dp4

/- Rows of flags: copied, turned, owned. -/
namespace Go.Proofs.Ytlpbfbghgacjiaa.Dq0
open Go.RowKit
open Nd0 Nd1 Nd2 Nd3 Ap1 Nd6
open Ta2 (bitB)
set_option linter.unusedVariables false

theorem infoBool0 : (Try.prog.info? 4).map (fun i => (i.zero, i.size, i.bytes)) = some (some (.bool false), 1, 1) := by kernel_rfl
def noughtsB (n : Nat) : Array Value := madeCells #[.bool false] (n * 1)
theorem noughtsB_get (n j : Nat) (h : j < n) : (noughtsB n)[j]? = some (.bool false) := by
  simp only [noughtsB, madeCells, Array.getElem?_map, Array.getElem?_range]
  rw [if_pos (by omega)]
  simp only [Option.map_some]
  have e : j % 1 = 0 := Nat.mod_one j
  exact congrArg (fun m => some ((#[.bool false] : Array Value)[m]!)) e
theorem makeBools0 (n : Nat) (hn : n ≤ 1048576) (w : World) :
    (Instr.makeSlice 24 (.int .i64 (n : Int)) (.int .i64 (n : Int))).run Try.prog w = .ok (.slice (some ⟨w.heap.size, 0, none⟩) n n) (w.alloc (.cells (noughtsB n) 4)) := by
  obtain ⟨i, hi, hzz⟩ := Option.map_eq_some_iff.1 infoBool0
  simp only [Prod.mk.injEq] at hzz
  obtain ⟨hz, hs, hb⟩ := hzz
  have h := run_make (P := Try.prog) w 24 4 i _ Try.underlying24 hi hz .i64 .i64 n n (by omega) (Int.le_refl _) (by rw [hb]; omega) (by omega)
  rw [hs] at h
  simpa [noughtsB, Value.cells] using h

set_option maxHeartbeats 2000000 in
theorem toBoolS (w : World) (a : Option Addr) (l : List Bool) (c : Nat) (h : Bools w a l) (hl : l.length ≤ 1048576) :
    Calls Try.prog 20 #[.slice a l.length c] w fun e w' => e = .returned (.slice (some ⟨w.heap.size, 0, none⟩) l.length l.length) ∧ WBools w' w.heap.size (some ⟨w.heap.size, 0, none⟩) l ∧ Below w.heap.size w w' := by
  have H : Hid (Bools w a l) := h
  clear h
  have hmk := makeBools0 l.length hl
  go_enter Try.func20, Try.ntmps20
  go_wp2
  clear hmk
  go_loopw [4] (fun i wr => ∃ k : Nat, k ≤ l.length ∧ i = .int .i64 k ∧ Below w.heap.size w wr ∧ w.heap.size < wr.heap.size ∧ ∀ j (hj : j < l.length), ∃ v : Bool, wr.cell? ⟨w.heap.size, j, none⟩ = some (.bool v) ∧ wr.frozen? ⟨w.heap.size, j, none⟩ = false ∧ (j < k → v = l[j])) (fun i _ => l.length - (intOf i).toNat)
  case atStart =>
    exact ⟨0, Nat.zero_le _, rfl, (Below.refl _ _).alloc (Nat.le_refl _) _, by simp, fun j hj => ⟨false, by rw [World.cell?_alloc_new]; exact noughtsB_get _ _ hj, by simp, fun x => by omega⟩⟩
  case round =>
    obtain ⟨k, hk, rfl, hb, hz, hx⟩ := hrel
    have HB : Hid (Below w.heap.size w wr) := hb
    by_cases hlt : k < l.length
    · have HN := H.out.below hb
      clear hb
      rcases HN.2 with h0 | ⟨xb, xo, rfl, hc⟩
      · omega
      have p0 := hc k hlt
      clear hc HN
      have HX : Hid (∀ j (hj : j < l.length), ∃ v : Bool, wr.cell? ⟨w.heap.size, j, none⟩ = some (.bool v) ∧ wr.frozen? ⟨w.heap.size, j, none⟩ = false ∧ (j < k → v = l[j])) := hx
      obtain ⟨v, q0, q1, _⟩ := hx k hlt
      clear hx
      have hlz : (k : Int) < (l.length : Int) := by omega
      obtain ⟨nd, hnd⟩ : ∃ nd : Bool, nd = l[k] := ⟨_, rfl⟩
      have HD : Hid (nd = l[k]) := hnd
      rw [← hnd] at p0
      clear hnd
      go_wp2
      go_roundw
      case rel =>
        have F1 : Below w.heap.size w (wr.setCell ⟨w.heap.size, k, none⟩ (.bool nd)) :=
          HB.out.trans (((Kept.refl (fun b => b = w.heap.size) wr).setCell (p := ⟨w.heap.size, k, none⟩) rfl _).below (fun i hi => by omega) HB.out.size)
        have F2 : w.heap.size < (wr.setCell ⟨w.heap.size, k, none⟩ (.bool nd)).heap.size := by simpa [World.setCell] using hz
        have F4 : ∀ j (hj : j < l.length), ∃ v : Bool, (wr.setCell ⟨w.heap.size, k, none⟩ (.bool nd)).cell? ⟨w.heap.size, j, none⟩ = some (.bool v) ∧ (wr.setCell ⟨w.heap.size, k, none⟩ (.bool nd)).frozen? ⟨w.heap.size, j, none⟩ = false ∧ (j < k + 1 → v = l[j]) := by
          intro j hj
          obtain ⟨u, r0, r1, r2⟩ := HX.out j hj
          by_cases e : j = k
          · subst e
            exact ⟨nd, set_same r0, by rw [World.frozen?_setCell]; exact r1, fun _ => HD.out⟩
          · exact ⟨u, by rw [set_other (by simp <;> omega)]; exact r0, by rw [World.frozen?_setCell]; exact r1, fun x => r2 (by omega)⟩
        exact ⟨k + 1, by omega, by go_num, F1, F2, F4⟩
      case measure => simp [intOf]; omega
    · go_wp2
      go_ret
      refine ⟨rfl, ⟨H.out.1, ?_⟩, HB.out⟩
      by_cases e : l.length = 0
      · exact .inl e
      · refine .inr ⟨w.heap.size, 0, rfl, Nat.le_refl _, fun i hi => ?_⟩
        obtain ⟨v, q0, q1, q2⟩ := hx i hi
        have := q2 (by omega)
        subst this
        rw [Nat.zero_add]
        exact ⟨q0, q1⟩

/-- The first k flags, each changed by f. -/
def mapTo (f : Bool → Bool) (l : List Bool) (k : Nat) : List Bool := (l.take k).map f
theorem mapTo_next {f : Bool → Bool} {l : List Bool} {k : Nat} (h : k < l.length) : mapTo f l (k + 1) = mapTo f l k ++ [f l[k]] := by
  unfold mapTo
  rw [List.take_succ_eq_append_getElem h, List.map_append]
  rfl
theorem mapTo_len {f : Bool → Bool} {l : List Bool} {k : Nat} (h : k ≤ l.length) : (mapTo f l k).length = k := by
  unfold mapTo
  rw [List.length_map, List.length_take]
  omega
/-- Every flag turned. -/
def turnL (l : List Bool) : List Bool := l.map not
theorem turnL_length (l : List Bool) : (turnL l).length = l.length := List.length_map ..
theorem mapTo_all {f : Bool → Bool} {l : List Bool} {k : Nat} (h : ¬ k < l.length) : mapTo f l k = l.map f := by
  unfold mapTo
  rw [List.take_of_length_le (by omega)]

end Go.Proofs.Ytlpbfbghgacjiaa.Dq0
