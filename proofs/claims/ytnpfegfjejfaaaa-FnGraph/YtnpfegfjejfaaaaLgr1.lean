/- The law of the circuits of tables. -/
import Derived.Lib.QuietBelow
import Derived.BigQuiet
import Derived.Test.YtnpfegfjejfaaaaPkHf
import Derived.Test.YtnpfegfjejfaaaaGr5
import Derived.Test.YtnpfegfjejfaaaaPkHa
import Derived.Test.YtnpfegfjejfaaaaGp9
import Derived.Test.YtnpfegfjejfaaaaGp8
import Derived.Test.YtnpfegfjejfaaaaGp6
import Derived.Test.YtnpfegfjejfaaaaPkHm
import Derived.Test.YtnpfegfjejfaaaaLw4
import Derived.Test.YtnpfegfjejfaaaaWv2
namespace Go.Proofs.Ytnpfegfjejfaaaa.Lgr1
open Go.RowKit
open Qb0 Gr0 Gr1 Gr2 Gr3 Gr5 Gv0 Gt0 Ta1 Ta3 Tc2 Tc5 Td1 Te1 Te3 Gp5 Gp9 Wv2
open Ta2 (plc atB bitB)
open Nd0 (Kept Ints)
open Dr0 (Bytes)
open Lw4 (lat lbig)
open Gp12 (iGraphOf iGraphOf0)
open Gp3 (iGraphOk)
open Gp6 (iGraphSize)
open Gp8 (iGraphValue)
open Gs2 (sGraphSize)
open Tdv (drawGraphOf)
open Ss0 (bs bs_size)
open Ss1 (tl bs_tl)
open Go.Sort (grow)
set_option linter.unusedVariables false

/-- What stands: the table's box, the graph's, its ands, the bytes. -/
structure LG (w : World) (a : Option Addr) (len q3 q4 : Nat) (N : Int) (S : ByteArray) (ins : Int) (ga : Option Addr) (gc : Nat) (l : List An) (W : World) : Prop where
  t : Lay W q3 (.int .i64 N) (.string S)
  g : Lay W q4 (.int .i64 ins) (.slice ga l.length gc)
  an : Ans W ga l
  by_ : Bytes W a len
  bel : Below w.heap.size w W
theorem LG.below {w : World} {a : Option Addr} {len q3 q4 : Nat} {N : Int} {S : ByteArray} {ins : Int} {ga : Option Addr} {gc : Nat} {l : List An} {W W' : World} (h : LG w a len q3 q4 N S ins ga gc l W) (k : Below W.heap.size W W') : LG w a len q3 q4 N S ins ga gc l W' :=
  ⟨h.t.below k, h.g.below k, h.an.below k, h.by_.below k, h.bel.trans (k.mono h.bel.size)⟩
theorem tok_str {N : Int} {S : ByteArray} (h : tokB N (tl S) = true) : ∃ (n : Nat) (F : Nat → Bool), n ≤ 12 ∧ N = (n : Int) ∧ S = bs (tab n F) := by
  obtain ⟨n, F, h1, h2, h3⟩ := tok_tab h
  exact ⟨n, F, h1, h2, by rw [← bs_tl S, h3]⟩

set_option maxRecDepth 100000 in
set_option maxHeartbeats 8000000 in
theorem lawGraph (w : World) (a : Option Addr) (len cap : Nat) (hb : Bytes w a len) :
    Calls Try.prog 3 #[.slice a len cap] w fun e w' => e = .returned (.bool true) ∧ Below w.heap.size w w' := by
  have HB : Hid (Bytes w a len) := hb
  clear hb
  by_cases hs : 1048576 < len
  · go_enter Try.func3, Try.ntmps3
    go_wp2_with fail
    refine (lbig _ a len cap true (by simp; omega)).mono ?_
    rintro e w' ⟨rfl, rfl⟩
    go_wp2
    go_ret
    exact ⟨rfl, Below.refl _ _⟩
  have hsl : len ≤ 1048576 := by omega
  go_enter Try.func3, Try.ntmps3
  go_wp2_with fail
  refine (lbig _ a len cap false (by simp; omega)).mono ?_
  rintro e w0 ⟨rfl, hw0⟩
  have hw0' := hw0.symm
  clear hw0
  subst hw0'
  go_wp2_with fail
  refine (drawGraphOf _ a len cap HB.out).mono ?_
  rintro e w1 ⟨⟨N, S, rfl, hS⟩, hb1⟩
  obtain ⟨W1, hW1⟩ : ∃ W1, W1 = w1.alloc (.cells #[.int .i64 N, .string S] 25) := ⟨_, rfl⟩
  have HA1 : Hid (Below w.heap.size w W1) := by rw [hW1]; exact hb1.alloc hb1.size _
  have HL1 : Hid (Lay W1 w1.heap.size (.int .i64 N) (.string S)) := by rw [hW1]; exact Lay.made _ _ _ _
  have HE1 : Hid (w1.alloc (.cells #[.int .i64 N, .string S] 25) = W1) := hW1.symm
  clear hb1 hW1
  have hSz : S.size ≤ 1048576 := by omega
  have HOK : Hid (∀ W, Calls Try.prog 15 #[tv N S] W fun e w' => e = .returned (.bool (tokB N (tl S))) ∧ Below W.heap.size W w') := fun W => sTableOk N S W hSz
  have HGO : Hid (∃ (ir : Int) (lr : List An) (xr : Int), (tokB N (tl S) = false → ir = 0 ∧ lr = [] ∧ xr = -1) ∧ (tokB N (tl S) = true → ∃ (n : Nat) (F : Nat → Bool), n ≤ 6 ∧ N = (n : Int) ∧ S = bs (tab n F) ∧ ir = (n : Int) ∧ Of n F lr xr) ∧ ∀ W, Calls Try.prog 14 #[tv N S] W (GrPost W ir (lr, xr))) := by
    cases h : tokB N (tl S)
    · exact ⟨0, [], -1, fun _ => ⟨rfl, rfl, rfl⟩, (fun e => by cases e), fun W => iGraphOf0 W hSz h⟩
    · obtain ⟨n, F, hn, rfl, rfl⟩ := tok_str h
      have h6 : n ≤ 6 := by
        rw [bs_size, tab_length] at hS
        apply Classical.byContradiction
        intro h7
        have : 2 ^ 7 ≤ 2 ^ n := Nat.pow_le_pow_right (by omega) (by omega)
        omega
      obtain ⟨l, x, hO⟩ := of_facts n F h6
      refine ⟨(n : Int), l, x, (fun e => by cases e), (fun _ => ⟨n, F, h6, rfl, rfl, rfl, hO⟩), fun W => ?_⟩
      have := iGraphOf n F W hn
      rwa [hO.e] at this
  obtain ⟨ir, lr, xr, hF, hT, hGO⟩ := HGO.out
  have HFx : Hid (tokB N (tl S) = false → ir = 0 ∧ lr = [] ∧ xr = -1) := hF
  have HTx : Hid (tokB N (tl S) = true → ∃ (n : Nat) (F : Nat → Bool), n ≤ 6 ∧ N = (n : Int) ∧ S = bs (tab n F) ∧ ir = (n : Int) ∧ Of n F lr xr) := hT
  have HGF : Hid (∀ W, Calls Try.prog 14 #[tv N S] W (GrPost W ir (lr, xr))) := hGO
  clear HGO hF hT hGO
  go_upto_region 4 with fail
  rw [HE1.out]
  generalize hq1 : w1.heap.size = q3 at *
  clear hq1 HE1
  obtain ⟨x0, x1, _, _⟩ := HL1.out
  go_wp2_with fail
  refine (HGF.out _).mono ?_
  rintro e w2 ⟨ga, gc, rfl, hw, hb2⟩
  obtain ⟨W2, hW2⟩ : ∃ W2, W2 = w2.alloc (.cells #[.int .i64 ir, .slice ga (List.length lr) gc] 29) := ⟨_, rfl⟩
  have HG2 : Hid (LG w a len q3 w2.heap.size N S ir ga gc lr W2) := by
    have hb3 : Below w2.heap.size w2 W2 := by rw [hW2]; exact (Below.refl _ _).alloc (Nat.le_refl _) _
    have hb4 : Below w.heap.size w W2 := (HA1.out.trans (hb2.mono HA1.out.size)).trans (hb3.mono (Nat.le_trans HA1.out.size hb2.size))
    exact ⟨(HL1.out.below hb2).below hb3, by rw [hW2]; exact Lay.made _ _ _ _, (hw.plain).below hb3, HB.out.below hb4, hb4⟩
  have HE2 : Hid (w2.alloc (.cells #[.int .i64 ir, .slice ga (List.length lr) gc] 29) = W2) := hW2.symm
  clear hw hb2 hW2 x0 x1
  go_upto_region 5 with fail
  simp only [HE2.out]
  generalize hq2 : w2.heap.size = q4 at *
  clear hq2 HE2 HL1 HA1
  obtain ⟨x0, x1, _, _⟩ := HG2.out.t
  go_wp2_with fail
  refine (HOK.out _).mono ?_
  rintro e w3 ⟨rfl, hb⟩
  have HG3 : Hid (LG w a len q3 q4 N S ir ga gc lr w3) := HG2.out.below hb
  clear hb x0 x1 HG2
  cases htk : tokB N (tl S)
  · obtain ⟨rfl, rfl, rfl⟩ := HFx.out htk
    obtain ⟨y0, y1, _, _⟩ := HG3.out.g
    clear htk HTx HFx
    go_wp2
    go_ret
    exact ⟨rfl, HG3.out.bel⟩
  obtain ⟨n, F, hn, rfl, rfl, rfl, hOf⟩ := HTx.out htk
  clear HTx HFx htk HGF HOK
  have HOf : Hid (Of n F lr xr) := hOf
  have hx := hOf.rx
  have hlen := hOf.len
  have hsz := hOf.size
  have hpw : 2 ^ n ≤ 64 := by have : 2 ^ n ≤ 2 ^ 6 := Nat.pow_le_pow_right (by omega) hn; omega
  have HSS : Hid ((bs (tab n F)).size = 2 ^ n) := by show _ = _; rw [bs_size, tab_length]
  have HGT : Hid (∀ W, Ans W ga lr → Calls Try.prog 16 #[.agg #[.int .i64 (n : Int), .slice ga lr.length gc], .int .i64 xr] W fun e w' => e = .returned (.tuple #[.agg #[.int .i64 (n : Int), .string (bs (tab n F))], .bool true]) ∧ Below W.heap.size W w') := fun W hA => by
    have := iGraphTable W n ga gc lr hA xr
    have hc : gokB n lr = true ∧ wireB n lr xr = true := ⟨hOf.ok, hOf.w⟩
    rwa [show tgN n lr xr = (n : Int) by unfold tgN; rw [if_pos hc], show tgS n lr xr = bs (tab n F) by unfold tgS; rw [if_pos hc, Int.toNat_natCast, hOf.tt], show tgB n lr xr = true by unfold tgB; rw [hOf.ok, hOf.w]; rfl] at this
  have HGN : Hid (∀ W, Ans W ga lr → Calls Try.prog 16 #[.agg #[.int .i64 (n : Int), .slice ga lr.length gc], .int .i64 (turnW xr)] W fun e w' => e = .returned (.tuple #[.agg #[.int .i64 (n : Int), .string (bs (tab n fun p => !F p))], .bool true]) ∧ Below W.heap.size W w') := fun W hA => by
    have := iGraphTable W n ga gc lr hA (turnW xr)
    have hc : gokB n lr = true ∧ wireB n lr (turnW xr) = true := ⟨hOf.ok, by rw [turn_wire]; exact hOf.w⟩
    rwa [show tgN n lr (turnW xr) = (n : Int) by unfold tgN; rw [if_pos hc], show tgS n lr (turnW xr) = bs (tab n fun p => !F p) by unfold tgS; rw [if_pos hc, Int.toNat_natCast, hOf.tn], show tgB n lr (turnW xr) = true by unfold tgB; rw [hOf.ok, turn_wire, hOf.w]; rfl] at this
  have HGK : Hid (∀ W, Ans W ga lr → Calls Try.prog 17 #[.agg #[.int .i64 (n : Int), .slice ga lr.length gc]] W fun e w' => e = .returned (.bool true) ∧ Below W.heap.size W w') := fun W hA => by
    have := iGraphOk W n ga gc lr hA
    rwa [hOf.ok] at this
  have HGS : Hid (∀ W, Ans W ga lr → Calls Try.prog 18 #[.agg #[.int .i64 (n : Int), .slice ga lr.length gc], .int .i64 xr] W fun e w' => e = .returned (.int .i64 (sizeG n lr xr)) ∧ Below W.heap.size W w') := fun W hA => iGraphSize W n ga gc lr hA xr
  have HSS2 : Hid (∀ W, Ans W ga lr → Calls Try.prog 20 #[.agg #[.int .i64 (n : Int), .slice ga lr.length gc], .int .i64 xr] W fun e w' => e = .returned (.int .i64 (sizeG n lr xr)) ∧ Below W.heap.size W w') := fun W hA => sGraphSize W n ga gc lr hA hOf.rg xr
  have HNT : Hid (∀ W, Calls Try.prog 23 #[tv (n : Int) (bs (tab n F))] W fun e w' => e = .returned (tv (n : Int) (bs (tab n fun p => !F p))) ∧ Below W.heap.size W w') := fun W => iNot n F W (by omega)
  have HVL : Hid (∀ (W : World) (g c : Nat) (vs : List Int), vs.length = n → (∀ i, i < vs.length → bitB (vs.getD i 0) = true) → Ans W ga lr → Ints W (some ⟨g, 0, none⟩) vs → Calls Try.prog 21 #[.agg #[.int .i64 (n : Int), .slice ga lr.length gc], .slice (some ⟨g, 0, none⟩) vs.length c, .int .i64 xr] W fun e w' => e = .returned (.int .i64 (atB n F vs)) ∧ Below W.heap.size W w') := fun W g c vs h1 h2 hA hI => by
    have := iGraphValue W n ga gc lr hA g 0 c vs hI (by omega) xr
    rwa [hOf.val vs h1 h2] at this
  have HAT : Hid (∀ (W : World) (g c : Nat) (vs : List Int), Ints W (some ⟨g, 0, none⟩) vs → Calls Try.prog 22 #[tv (n : Int) (bs (tab n F)), .slice (some ⟨g, 0, none⟩) vs.length c] W fun e w' => e = .returned (.int .i64 (atB n F vs)) ∧ Below W.heap.size W w') := fun W g c vs hI => iTableAt n F _ vs c W (by omega) hI
  clear hOf
  generalize sizeG n lr xr = sz at *
  generalize bs (tab n F) = S at *
  generalize bs (tab n fun p => !F p) = T at *
  have hl3 : (lr.length : Int) ≤ 3 * (S.size : Int) := by rw [HSS.out]; omega
  clear hlen hpw
  obtain ⟨y0, y1, _, _⟩ := HG3.out.g
  go_wp2_with fail
  refine (HGT.out _ HG3.out.an).mono ?_
  rintro e w4 ⟨rfl, hb⟩
  have HG4 : Hid (LG w a len q3 q4 (n : Int) S (n : Int) ga gc lr w4) := HG3.out.below hb
  clear hb y0 y1 HG3
  obtain ⟨W4, hW4⟩ : ∃ W4, W4 = w4.alloc (.cells #[.int .i64 (n : Int), .string S] 25) := ⟨_, rfl⟩
  have HL4 : Hid (Lay W4 w4.heap.size (.int .i64 (n : Int)) (.string S)) := by rw [hW4]; exact Lay.made _ _ _ _
  have HG5 : Hid (LG w a len q3 q4 (n : Int) S (n : Int) ga gc lr W4) := by rw [hW4]; exact HG4.out.below ((Below.refl _ _).alloc (Nat.le_refl _) _)
  have HE4 : Hid (w4.alloc (.cells #[.int .i64 (n : Int), .string S] 25) = W4) := hW4.symm
  clear hW4 HG4
  go_upto_region 8 with fail
  simp only [HE4.out]
  generalize hq4 : w4.heap.size = q6 at *
  clear hq4 HE4
  obtain ⟨x0, x1, _, _⟩ := HG5.out.t
  obtain ⟨y0, y1, _, _⟩ := HG5.out.g
  obtain ⟨z0, z1, _, _⟩ := HL4.out
  go_wp2_with fail
  refine (HGK.out _ HG5.out.an).mono ?_
  rintro e w5 ⟨rfl, hb⟩
  have HG6 : Hid (LG w a len q3 q4 (n : Int) S (n : Int) ga gc lr w5) := HG5.out.below hb
  clear hb x0 x1 y0 y1 z0 z1 HL4 HG5
  obtain ⟨x0, x1, _, _⟩ := HG6.out.t
  obtain ⟨y0, y1, _, _⟩ := HG6.out.g
  go_wp2_with fail
  refine (HGS.out _ HG6.out.an).mono ?_
  rintro e w6 ⟨rfl, hb⟩
  have HG7 : Hid (LG w a len q3 q4 (n : Int) S (n : Int) ga gc lr w6) := HG6.out.below hb
  clear hb x0 x1 y0 y1 HG6
  have HV0 : Hid (OwI (w6.alloc (.cells #[] 3)) w6.heap.size (.slice (some ⟨w6.heap.size, 0, none⟩) 0 0) []) := OwI.lit w6 w6.heap.size (Nat.le_refl _)
  have HBV0 : Hid (Below w6.heap.size w6 (w6.alloc (.cells #[] 3))) := (Below.refl _ _).alloc (Nat.le_refl _) _
  go_wp2_with fail
  go_loopw [9, 10] (fun v i wr => ∃ (k : Nat) (L : List Nat) (g cp : Nat), k ≤ n ∧ i = .int .i64 k ∧ v = .slice (some ⟨g, 0, none⟩) L.length cp ∧ L.length = k ∧ (∀ y ∈ L, y ≤ 1) ∧ OwI wr w6.heap.size (.slice (some ⟨g, 0, none⟩) L.length cp) L ∧ Below w6.heap.size w6 wr) (fun _ i _ => n - (intOf i).toNat)
  case atStart => exact ⟨0, [], _, 0, Nat.zero_le _, rfl, rfl, rfl, (fun y h => by cases h), HV0.out, HBV0.out⟩
  case round =>
    obtain ⟨k, L, g, cp, hk, rfl, rfl, hL, hLy, hO, hb8⟩ := hrel
    have HL : Hid (L.length = k) := hL
    have HLy : Hid (∀ y ∈ L, y ≤ 1) := hLy
    have HO : Hid (OwI wr w6.heap.size (.slice (some ⟨g, 0, none⟩) L.length cp) L) := hO
    have HB8 : Hid (Below w6.heap.size w6 wr) := hb8
    have HG8 : Hid (LG w a len q3 q4 (n : Int) S (n : Int) ga gc lr wr) := HG7.out.below hb8
    clear hL hLy hO hb8
    obtain ⟨x0, x1, _, _⟩ := HG8.out.t
    by_cases hkn : k < n
    · have hkz : (k : Int) < (n : Int) := by omega
      go_wp2_with fail
      refine (lat wr a len cap _ (by omega) (by omega) HG8.out.by_ hsl).mono ?_
      rintro e w9 ⟨⟨x, rfl, hx0, hx1⟩, hw9⟩
      have hw9' := hw9.symm
      clear hw9
      subst hw9'
      obtain ⟨y, hy⟩ : ∃ y : Nat, y = (x % 2).toNat := ⟨_, rfl⟩
      have hy1 : y ≤ 1 := by omega
      have tm : x.tmod 2 = (y : Int) := by rw [Int.tmod_eq_emod_of_nonneg (by omega)]; omega
      have tm' : x % 2 = (y : Int) := by omega
      clear hy
      obtain ⟨L6, hL6⟩ : ∃ L6, L6 = L ++ [y] := ⟨_, rfl⟩
      have HLA : Hid (L ++ [y] = L6) := hL6.symm
      have HL6 : Hid (L6.length = k + 1 ∧ ∀ z ∈ L6, z ≤ 1) := by
        rw [hL6]
        refine ⟨by rw [List.length_append, HL.out]; rfl, fun z hz => ?_⟩
        rcases List.mem_append.1 hz with h | h
        · exact HLy.out z h
        · rw [List.mem_singleton.1 h]; exact hy1
      have hlen1 : L.length + [y].length ≤ 1048577 := by rw [HL.out]; simp; omega
      have HOA : Hid (OwI (wr.alloc (.cells #[.int .i64 (y : Int)] 3)) w6.heap.size (.slice (some ⟨g, 0, none⟩) L.length cp) L) := HO.out.kept (S := fun _ => False) ((Kept.refl _ _).alloc _) (fun _ _ e => e)
      have HUA : Hid (Is (wr.alloc (.cells #[.int .i64 (y : Int)] 3)) wr.heap.size 0 [y]) := fun t ht => by
        have : t = 0 := by simp at ht; exact ht
        subst this
        rw [World.cell?_alloc_new]; rfl
      have HBA : Hid (Below w6.heap.size w6 (wr.alloc (.cells #[.int .i64 (y : Int)] 3))) := HB8.out.alloc HB8.out.size _
      clear hL6 x0 x1
      go_wp2_with (at_builtin; refine app_is _ (by rfl) _ _ (by rfl) w6.heap.size g cp wr.heap.size 0 1 L [y] (by rfl) (by rfl) HOA.out HUA.out HBA.out.size hlen1 L6 HLA.out ?_; intro g6 cp6 w7 ho6 hk6 hg6; have HO6 : Hid (OwI w7 w6.heap.size (.slice (some ⟨g6, 0, none⟩) L6.length cp6) L6) := ho6; have HB6 : Hid (Below w6.heap.size w6 w7) := HBA.out.trans (hk6.below (fun k e => by have := (HOA.out.lt g rfl).1; omega) HBA.out.size); clear ho6 hk6 hg6)
      go_roundw
      case rel => exact ⟨k + 1, L6, g6, cp6, by omega, by go_num, rfl, HL6.out.1, HL6.out.2, HO6.out, HB6.out⟩
      case measure => simp [intOf]; omega
    · have e : k = n := by omega
      subst e
      have hxor : bits .xor .i64 xr 1 = turnW xr := Gp1.xor1 (by omega) (by omega)
      obtain ⟨y0, y1, _, _⟩ := HG8.out.g
      have hkk : ¬ (k : Int) < (k : Int) := by omega
      go_wp2_with fail
      try rw [hxor]
      refine (HGN.out _ HG8.out.an).mono ?_
      rintro e w9 ⟨rfl, hb⟩
      have HG9 : Hid (LG w a len q3 q4 (k : Int) S (k : Int) ga gc lr w9) := HG8.out.below hb
      have HVS : Hid (Ints w9 (some ⟨g, 0, none⟩) (L.map Int.ofNat)) := by
        have hi : Ints wr (some ⟨g, 0, none⟩) (L.map Int.ofNat) := by
          refine ⟨by rw [List.length_map, HL.out]; unfold maxLen; omega, .inr ⟨g, 0, rfl, fun i hi => ?_⟩⟩
          have hj : i < L.length := by rw [List.length_map] at hi; exact hi
          rw [HO.out.us i hj, List.getElem_map]
          rfl
        exact hi.below hb
      clear hb x0 x1 y0 y1
      obtain ⟨Z, hZ⟩ : ∃ Z, Z = w9.alloc (.cells #[.int .i64 (k : Int), .string T] 25) := ⟨_, rfl⟩
      have hbz : Below w9.heap.size w9 Z := by rw [hZ]; exact (Below.refl _ _).alloc (Nat.le_refl _) _
      have HLZ : Hid (Lay Z w9.heap.size (.int .i64 (k : Int)) (.string T)) := by rw [hZ]; exact Lay.made _ _ _ _
      have HGZ : Hid (LG w a len q3 q4 (k : Int) S (k : Int) ga gc lr Z) := HG9.out.below hbz
      have HVZ : Hid (Ints Z (some ⟨g, 0, none⟩) (L.map Int.ofNat)) := HVS.out.below hbz
      have HEZ : Hid (w9.alloc (.cells #[.int .i64 (k : Int), .string T] 25) = Z) := hZ.symm
      clear hbz hZ HVS HG9
      go_upto_region 17 with fail
      simp only [HEZ.out]
      generalize hq9 : w9.heap.size = q11 at *
      clear hq9 HEZ
      have HBits : Hid (∀ i, i < (L.map Int.ofNat).length → bitB ((L.map Int.ofNat).getD i 0) = true) := fun i hi => by
        rw [List.length_map] at hi
        have := HLy.out L[i] (List.getElem_mem hi)
        have e : (L.map Int.ofNat).getD i 0 = Int.ofNat L[i] := by simp [List.getD, hi]
        rw [e]
        unfold bitB
        have e2 : Int.ofNat L[i] = ((L[i] : Nat) : Int) := rfl
        exact decide_eq_true (by omega)
      have HQ1 : Hid (∀ d os, Calls Try.prog 20 #[.agg #[.int .i64 (k : Int), .slice ga lr.length gc], .int .i64 xr] (grow (redrawn Z d) os) fun e w'' => e = .returned (.int .i64 sz) ∧ ∃ p : Regrown, w'' = grow (redrawn Z p.d) p.os) := fun d os => Calls.regrown_of (HSS2.out _ (HGZ.out.an.below (below_regrown Z d os)))
      have HQ2 : Hid (∀ d os, Calls Try.prog 21 #[.agg #[.int .i64 (k : Int), .slice ga lr.length gc], .slice (some ⟨g, 0, none⟩) L.length cp, .int .i64 xr] (grow (redrawn Z d) os) fun e w'' => e = .returned (.int .i64 (atB k F (L.map Int.ofNat))) ∧ ∃ p : Regrown, w'' = grow (redrawn Z p.d) p.os) := fun d os => by
        have := HVL.out (grow (redrawn Z d) os) g cp (L.map Int.ofNat) (by rw [List.length_map]; exact HL.out) HBits.out (HGZ.out.an.below (below_regrown Z d os)) (HVZ.out.below (below_regrown Z d os))
        rw [List.length_map] at this
        exact Calls.regrown_of this
      have HQ3 : Hid (∀ d os, Calls Try.prog 22 #[tv (k : Int) S, .slice (some ⟨g, 0, none⟩) L.length cp] (grow (redrawn Z d) os) fun e w'' => e = .returned (.int .i64 (atB k F (L.map Int.ofNat))) ∧ ∃ p : Regrown, w'' = grow (redrawn Z p.d) p.os) := fun d os => by
        have := HAT.out (grow (redrawn Z d) os) g cp (L.map Int.ofNat) (HVZ.out.below (below_regrown Z d os))
        rw [List.length_map] at this
        exact Calls.regrown_of this
      have HQ4 : Hid (∀ d os, Calls Try.prog 23 #[tv (k : Int) S] (grow (redrawn Z d) os) fun e w'' => e = .returned (tv (k : Int) T) ∧ ∃ p : Regrown, w'' = grow (redrawn Z p.d) p.os) := fun d os => Calls.regrown_of (HNT.out _)
      generalize atB k F (L.map Int.ofNat) = AV at *
      have rc00 : ∀ d os, (grow (redrawn Z d) os).cell? ⟨q3, 0, none⟩ = some (.int .i64 (k : Int)) := fun d os => cell_regrown HGZ.out.t.c0 d os
      have rc01 : ∀ d os, (grow (redrawn Z d) os).cell? ⟨q3, 1, none⟩ = some (.string S) := fun d os => cell_regrown HGZ.out.t.c1 d os
      have rc10 : ∀ d os, (grow (redrawn Z d) os).cell? ⟨q4, 0, none⟩ = some (.int .i64 (k : Int)) := fun d os => cell_regrown HGZ.out.g.c0 d os
      have rc11 : ∀ d os, (grow (redrawn Z d) os).cell? ⟨q4, 1, none⟩ = some (.slice ga lr.length gc) := fun d os => cell_regrown HGZ.out.g.c1 d os
      have rc20 : ∀ d os, (grow (redrawn Z d) os).cell? ⟨q11, 0, none⟩ = some (.int .i64 (k : Int)) := fun d os => cell_regrown HLZ.out.c0 d os
      have rc21 : ∀ d os, (grow (redrawn Z d) os).cell? ⟨q11, 1, none⟩ = some (.string T) := fun d os => cell_regrown HLZ.out.c1 d os
      have hsz0 : decide ((0 : Int) ≤ sz) = true := decide_eq_true hsz.1
      have hszl : decide (sz ≤ (lr.length : Int)) = true := decide_eq_true hsz.2
      have hszz : (sz == sz) = true := beq_self_eq_true sz
      have hav : (AV == AV) = true := beq_self_eq_true AV
      have htt : (T.toList == T.toList) = true := by simp
      have HZ : Hid (Below w.heap.size w Z) := HGZ.out.bel
      clear HB hs hsl HV0 HBV0 HG7 HG8 HGZ HLZ HVZ HBits HO HB8 HL HLy HSS HGT HGN HGK HGS HSS2 HNT HVL HAT HOf hS hSz hl3 hx hxor hkk
      refine wp_region_quiet_below (by kernel_rfl) (by kernel_rfl) ?_
      repeat (go_big_quiet_step ((first | (go_at_call 20; exact HQ1.out _ _) | (go_at_call 21; exact HQ2.out _ _) | (go_at_call 22; exact HQ3.out _ _) | (go_at_call 23; exact HQ4.out _ _))))
      refine wpQuiet_nil ?_
      intro w9 hw9
      obtain ⟨pp, hw8⟩ := hw9
      subst hw8
      go_wp2
      go_ret
      exact ⟨rfl, HZ.out.trans ((below_regrown Z pp.d pp.os).mono HZ.out.size)⟩

end Go.Proofs.Ytnpfegfjejfaaaa.Lgr1
