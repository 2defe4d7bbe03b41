/- Small texts of mine, one behind the other. -/
import Derived.Test.YteplffphkakliaaPkMb
/- The program's Idle. -/
namespace Go.Proofs.Yteplffphkakliaa.Dp6
open Go.RowKit
open Ta0 Ta1 Ta2 Ta3 Tc2 Tc4 Tc5 Tc6 Tc7 Dv0 Dp1 Dp3 Dp4 Te1 Te4 Ap0 Td5 De1
open Nd0 (Kept Ints WInts set_other set_same lt_of_cell)
open Ss0 (bs bs_size)
open Ss1 (tl)
set_option linter.unusedVariables false

theorem idTo_le (n k : Nat) (F : Nat → Bool) : (idTo n F k).length ≤ k := by have := id_nd n k F; omega

set_option maxRecDepth 100000 in
set_option maxHeartbeats 4000000 in
theorem iIdle0 {N : Int} {S : ByteArray} (ra : Option Addr) (L c : Nat) (w : World) (hS : S.size ≤ 1048576) (h : ¬ (tokB N (tl S) = true ∧ (L : Int) = N)) :
    Calls Try.prog 14 #[.slice ra L c, tv N S] w fun e w' => (∃ a' c', e = .returned (.slice a' 0 c') ∧ WInts w' w.heap.size a' []) ∧ Below w.heap.size w w' := by
  have HRU : Hid (∀ W, Calls Try.prog 43 #[.slice ra L c, tv N S] W fun e w' => e = .returned (.tuple #[rv0, .bool false]) ∧ Below W.heap.size W w') := fun W => iRuled0 ra L c W hS h
  have HN0 : Hid (ON w N S (.slice (some ⟨w.heap.size + 1, 0, none⟩) 0 0) [] ((w.alloc (.cells #[.int .i64 N, .string S] 26)).alloc (.cells #[] 3))) := ON.start w N S
  clear h
  go_enter Try.func14, Try.ntmps14
  go_wp2_with fail
  refine (HRU.out _).mono ?_
  rintro e w1 ⟨rfl, hb⟩
  have HN1 : Hid (ON w N S (.slice (some ⟨w.heap.size + 1, 0, none⟩) 0 0) [] (w1.alloc (.cells #[.slice none 0 0, .int .i64 0, .slice none 0 0] 62))) := (HN0.out.below hb).below ((Below.refl _ _).alloc (Nat.le_refl _) _)
  clear hb
  go_wp2
  go_ret
  exact ⟨⟨_, _, rfl, Nat.zero_le _, .inl rfl⟩, HN1.out.bel⟩

/-- What stands while the program collects the bits that a table doesn't need. -/
structure OI (w : World) (n m g q : Nat) (ra : Option Addr) (c : Nat) (S : ByteArray) (F : Nat → Bool) (v : Value) (l : List Int) (W : World) : Prop where
  on : ON w (n : Int) S v l W
  pk : Rb W q ra c n m g
  wds : Wds W g m F
  sep : ∀ i, v.ownBlock = some i → i ≠ g ∧ i ≠ q
theorem OI.below {w W W' : World} {n m g q : Nat} {ra : Option Addr} {c : Nat} {S : ByteArray} {F : Nat → Bool} {v : Value} {l : List Int} (h : OI w n m g q ra c S F v l W) (k : Below W.heap.size W W') : OI w n m g q ra c S F v l W' :=
  ⟨h.on.below k, h.pk.below k, h.wds.below k, h.sep⟩
theorem OI.next {w W W' : World} {n m g q g5 len cp : Nat} {ra : Option Addr} {c : Nat} {S : ByteArray} {F : Nat → Bool} {v : Value} {l l' : List Int} (h : OI w n m g q ra c S F v l W) (hm : 1 ≤ m) (hk : Kept (fun k => v.ownBlock = some k) W W') (hg : v.ownBlock = some g5 ∨ W.heap.size ≤ g5) (ho : Ows W' (w.heap.size + 1) (.slice (some ⟨g5, 0, none⟩) len cp) l') : OI w n m g q ra c S F (.slice (some ⟨g5, 0, none⟩) len cp) l' W' :=
  ⟨h.on.next hk ho, h.pk.kept hk (fun e => (h.sep _ e).2 rfl), h.wds.kept hk (fun e => (h.sep _ e).1 rfl), fun i hi => by
    have hi' : g5 = i := by simpa [Value.ownBlock] using hi
    subst hi'
    rcases hg with e | e
    · exact h.sep _ e
    · have h1 := h.wds.lt hm
      have h2 := h.pk.lt
      omega⟩

set_option maxRecDepth 100000 in
set_option maxHeartbeats 4000000 in
theorem iIdle (n : Nat) (F : Nat → Bool) (ra : Option Addr) (c : Nat) (w : World) (hn : n ≤ 12) :
    Calls Try.prog 14 #[.slice ra n c, tv (n : Int) (bs (tab n F))] w fun e w' => (∃ a' c', e = .returned (.slice a' (idTo n F n).length c') ∧ WInts w' w.heap.size a' (idTo n F n)) ∧ Below w.heap.size w w' := by
  have HRU : Hid (∀ W, Calls Try.prog 43 #[.slice ra n c, tv (n : Int) (bs (tab n F))] W fun e w' => ∃ g, e = .returned (.tuple #[rv ra c n (nw n) g, .bool true]) ∧ W.heap.size ≤ g ∧ Wds w' g (nw n) (upto (2 ^ n) F) ∧ Below W.heap.size W w') := fun W => iRuled n F ra c W hn
  have HND : Hid (∀ (W : World) (g b : Nat), b < n → Wds W g (nw n) (upto (2 ^ n) F) → Calls Try.prog 45 #[pv n (nw n) g, .int .i64 (b : Int)] W fun e w' => e = .returned (.bool (ndB n F b)) ∧ Below W.heap.size W w') := fun W g b h1 h2 => by
    have := needs n g b _ W hn h1 h2
    rwa [nd_upto n F b h1] at this
  have HY : Hid (∀ b, ndB n F b = false → idTo n F (b + 1) = idTo n F b ++ [(b : Int)]) := fun b h => idTo_yes h
  have HNo : Hid (∀ b, ndB n F b = true → idTo n F (b + 1) = idTo n F b) := fun b h => idTo_no h
  have HLe : Hid (∀ k, (idTo n F k).length ≤ k) := fun k => idTo_le n k F
  have HZ : Hid (idTo n F 0 = []) := rfl
  have hnw := (nw_le hn).1
  generalize ndB n F = NB at *
  generalize idTo n F = ND at *
  generalize bs (tab n F) = S at *
  generalize upto (2 ^ n) F = F1 at *
  generalize nw n = m at *
  have HN0 : Hid (ON w (n : Int) S (.slice (some ⟨w.heap.size + 1, 0, none⟩) 0 0) [] ((w.alloc (.cells #[.int .i64 (n : Int), .string S] 26)).alloc (.cells #[] 3))) := ON.start w n S
  go_enter Try.func14, Try.ntmps14
  go_wp2_with fail
  refine (HRU.out _).mono ?_
  rintro e w2 ⟨g, rfl, hg, hw2, hb⟩
  obtain ⟨W2, hW2⟩ : ∃ W2, W2 = w2.alloc (.cells #[.slice ra n c, .int .i64 (n : Int), .slice (some ⟨g, 0, none⟩) m m] 62) := ⟨_, rfl⟩
  have HN2 : Hid (OI w n m g w2.heap.size ra c S F1 (.slice (some ⟨w.heap.size + 1, 0, none⟩) 0 0) (ND 0) W2) := by
    show OI _ _ _ _ _ _ _ _ _ _ _ _
    rw [hW2, HZ.out]
    refine ⟨(HN0.out.below hb).below ((Below.refl _ _).alloc (Nat.le_refl _) _), Rb.made _ _ _ _ _ _ _, hw2.below ((Below.refl _ _).alloc (Nat.le_refl _) _), fun i hi => ?_⟩
    have hi' : w.heap.size + 1 = i := by simpa [Value.ownBlock] using hi
    have h2 := hb.size
    have h3 := (HN0.out.own.lt (w.heap.size + 1) (by simp [Value.ownBlock])).2
    omega
  have HE2 : Hid (w2.alloc (.cells #[.slice ra n c, .int .i64 (n : Int), .slice (some ⟨g, 0, none⟩) m m] 62) = W2) := hW2.symm
  clear hb hw2 hg hW2 HN0
  go_upto_region 3 with fail
  rw [HE2.out]
  generalize hq : w2.heap.size = q at *
  clear hq HE2
  go_wp2_with fail
  go_loopw [5, 21] (fun v i wr => ∃ k : Nat, k ≤ n ∧ i = .int .i64 k ∧ OI w n m g q ra c S F1 v (ND k) wr) (fun _ i _ => n - (intOf i).toNat)
  case atStart => exact ⟨0, Nat.zero_le _, rfl, HN2.out⟩
  case round =>
    obtain ⟨k, hk, rfl, hop⟩ := hrel
    have HOP : Hid (OI w n m g q ra c S F1 u5 (ND k) wr) := hop
    clear hop
    by_cases hlt : k < n
    · have hkz : (k : Int) < (n : Int) := by omega
      obtain ⟨y0, q0, q1⟩ := HOP.out.pk
      have HNk : Hid (∀ (W : World), Wds W g m F1 → Calls Try.prog 45 #[pv n m g, .int .i64 (k : Int)] W fun e w' => e = .returned (.bool (NB k)) ∧ Below W.heap.size W w') := fun W h => HND.out W g k hlt h
      cases hB : NB k
      rotate_left
      · rw [hB] at HNk
        have HT : Hid (ND (k + 1) = ND k) := HNo.out k hB
        clear hB
        go_wp2_with fail
        refine (HNk.out _ HOP.out.wds).mono ?_
        rintro e w3 ⟨rfl, hb⟩
        have HOP3 : Hid (OI w n m g q ra c S F1 u5 (ND k) w3) := HOP.out.below hb
        clear hb q0 q1 y0
        go_wp2
        go_roundw
        case rel => exact ⟨k + 1, by omega, by go_num, by rw [HT.out]; exact HOP3.out⟩
        case measure => simp [intOf]; omega
      · rw [hB] at HNk
        have HT : Hid (ND (k + 1) = ND k ++ [(k : Int)]) := HY.out k hB
        have HL : Hid ((ND k).length ≤ k) := HLe.out k
        clear hB
        go_wp2_with fail
        refine (HNk.out _ HOP.out.wds).mono ?_
        rintro e w3 ⟨rfl, hb⟩
        have HOP3 : Hid (OI w n m g q ra c S F1 u5 (ND k) w3) := HOP.out.below hb
        clear hb q0 q1 y0
        have hsz := HOP3.out.on.siz
        go_wp2_with (at_builtin; go_must (refine app_int _ rfl _ _ rfl (w.heap.size + 1) u5 (ND k) (k : Int) rfl rfl HOP3.out.on.own hsz (by have := HL.out; omega) ?_; intro g5 cp5 w5 ho5 hk5 hg5; have HO5 : Hid (OI w n m g q ra c S F1 (.slice (some ⟨g5, 0, none⟩) ((ND k).length + 1) cp5) (ND k ++ [(k : Int)]) w5) := HOP3.out.next hnw hk5 hg5 ho5; clear ho5 hk5 hg5))
        go_roundw
        case rel => exact ⟨k + 1, by omega, by go_num, by rw [HT.out]; exact HO5.out⟩
        case measure => simp [intOf]; omega
    · have HKN : Hid (k = n) := by show _ = _; omega
      obtain ⟨av, cv, hv, hwi⟩ := HOP.out.on.wints
      rw [HKN.out] at hv hwi
      subst hv
      have HWI : Hid (WInts wr w.heap.size av (ND n)) := hwi
      have HBX : Hid (Below w.heap.size w wr) := HOP.out.on.bel
      clear hwi HOP
      go_wp2
      go_ret
      exact ⟨⟨_, _, rfl, HWI.out⟩, HBX.out⟩

end Go.Proofs.Yteplffphkakliaa.Dp6

/- The program's Idle: what it answers lies in a block. -/
namespace Go.Proofs.Yteplffphkakliaa.Dp6b
open Go.RowKit
open Dp6 (idTo_le)
open Ta0 Ta1 Ta2 Ta3 Tc2 Tc4 Tc5 Tc6 Tc7 Dv0 Dp1 Dp3 Dp4 Te1 Te4 Ap0 Td5 De1
open Nd0 (Kept Ints WInts set_other set_same lt_of_cell)
open Ss0 (bs bs_size)
open Ss1 (tl)
set_option linter.unusedVariables false

/-- What stands while the program collects the bits that a table doesn't need. -/
structure OJ (w : World) (n m g q : Nat) (ra : Option Addr) (c : Nat) (S : ByteArray) (F : Nat → Bool) (v : Value) (l : List Int) (W : World) : Prop where
  on : ON w (n : Int) S v l W
  pk : Rb W q ra c n m g
  wds : Wds W g m F
  sep : ∀ i, v.ownBlock = some i → i ≠ g ∧ i ≠ q
  som : ∃ g len cp, v = .slice (some ⟨g, 0, none⟩) len cp
theorem OJ.below {w W W' : World} {n m g q : Nat} {ra : Option Addr} {c : Nat} {S : ByteArray} {F : Nat → Bool} {v : Value} {l : List Int} (h : OJ w n m g q ra c S F v l W) (k : Below W.heap.size W W') : OJ w n m g q ra c S F v l W' :=
  ⟨h.on.below k, h.pk.below k, h.wds.below k, h.sep, h.som⟩
theorem OJ.next {w W W' : World} {n m g q g5 len cp : Nat} {ra : Option Addr} {c : Nat} {S : ByteArray} {F : Nat → Bool} {v : Value} {l l' : List Int} (h : OJ w n m g q ra c S F v l W) (hm : 1 ≤ m) (hk : Kept (fun k => v.ownBlock = some k) W W') (hg : v.ownBlock = some g5 ∨ W.heap.size ≤ g5) (ho : Ows W' (w.heap.size + 1) (.slice (some ⟨g5, 0, none⟩) len cp) l') : OJ w n m g q ra c S F (.slice (some ⟨g5, 0, none⟩) len cp) l' W' :=
  ⟨h.on.next hk ho, h.pk.kept hk (fun e => (h.sep _ e).2 rfl), h.wds.kept hk (fun e => (h.sep _ e).1 rfl), fun i hi => by
    have hi' : g5 = i := by simpa [Value.ownBlock] using hi
    subst hi'
    rcases hg with e | e
    · exact h.sep _ e
    · have h1 := h.wds.lt hm
      have h2 := h.pk.lt
      omega, ⟨_, _, _, rfl⟩⟩

set_option maxRecDepth 100000 in
set_option maxHeartbeats 4000000 in
theorem iIdleS (n : Nat) (F : Nat → Bool) (ra : Option Addr) (c : Nat) (w : World) (hn : n ≤ 12) :
    Calls Try.prog 14 #[.slice ra n c, tv (n : Int) (bs (tab n F))] w fun e w' => (∃ g' c', e = .returned (.slice (some ⟨g', 0, none⟩) (idTo n F n).length c') ∧ WInts w' w.heap.size (some ⟨g', 0, none⟩) (idTo n F n)) ∧ Below w.heap.size w w' := by
  have HRU : Hid (∀ W, Calls Try.prog 43 #[.slice ra n c, tv (n : Int) (bs (tab n F))] W fun e w' => ∃ g, e = .returned (.tuple #[rv ra c n (nw n) g, .bool true]) ∧ W.heap.size ≤ g ∧ Wds w' g (nw n) (upto (2 ^ n) F) ∧ Below W.heap.size W w') := fun W => iRuled n F ra c W hn
  have HND : Hid (∀ (W : World) (g b : Nat), b < n → Wds W g (nw n) (upto (2 ^ n) F) → Calls Try.prog 45 #[pv n (nw n) g, .int .i64 (b : Int)] W fun e w' => e = .returned (.bool (ndB n F b)) ∧ Below W.heap.size W w') := fun W g b h1 h2 => by
    have := needs n g b _ W hn h1 h2
    rwa [nd_upto n F b h1] at this
  have HY : Hid (∀ b, ndB n F b = false → idTo n F (b + 1) = idTo n F b ++ [(b : Int)]) := fun b h => idTo_yes h
  have HNo : Hid (∀ b, ndB n F b = true → idTo n F (b + 1) = idTo n F b) := fun b h => idTo_no h
  have HLe : Hid (∀ k, (idTo n F k).length ≤ k) := fun k => idTo_le n k F
  have HZ : Hid (idTo n F 0 = []) := rfl
  have hnw := (nw_le hn).1
  generalize ndB n F = NB at *
  generalize idTo n F = ND at *
  generalize bs (tab n F) = S at *
  generalize upto (2 ^ n) F = F1 at *
  generalize nw n = m at *
  have HN0 : Hid (ON w (n : Int) S (.slice (some ⟨w.heap.size + 1, 0, none⟩) 0 0) [] ((w.alloc (.cells #[.int .i64 (n : Int), .string S] 26)).alloc (.cells #[] 3))) := ON.start w n S
  go_enter Try.func14, Try.ntmps14
  go_wp2_with fail
  refine (HRU.out _).mono ?_
  rintro e w2 ⟨g, rfl, hg, hw2, hb⟩
  obtain ⟨W2, hW2⟩ : ∃ W2, W2 = w2.alloc (.cells #[.slice ra n c, .int .i64 (n : Int), .slice (some ⟨g, 0, none⟩) m m] 62) := ⟨_, rfl⟩
  have HN2 : Hid (OJ w n m g w2.heap.size ra c S F1 (.slice (some ⟨w.heap.size + 1, 0, none⟩) 0 0) (ND 0) W2) := by
    show OJ _ _ _ _ _ _ _ _ _ _ _ _
    rw [hW2, HZ.out]
    refine ⟨(HN0.out.below hb).below ((Below.refl _ _).alloc (Nat.le_refl _) _), Rb.made _ _ _ _ _ _ _, hw2.below ((Below.refl _ _).alloc (Nat.le_refl _) _), fun i hi => ?_, ⟨_, _, _, rfl⟩⟩
    have hi' : w.heap.size + 1 = i := by simpa [Value.ownBlock] using hi
    have h2 := hb.size
    have h3 := (HN0.out.own.lt (w.heap.size + 1) (by simp [Value.ownBlock])).2
    omega
  have HE2 : Hid (w2.alloc (.cells #[.slice ra n c, .int .i64 (n : Int), .slice (some ⟨g, 0, none⟩) m m] 62) = W2) := hW2.symm
  clear hb hw2 hg hW2 HN0
  go_upto_region 3 with fail
  rw [HE2.out]
  generalize hq : w2.heap.size = q at *
  clear hq HE2
  go_wp2_with fail
  go_loopw [5, 21] (fun v i wr => ∃ k : Nat, k ≤ n ∧ i = .int .i64 k ∧ OJ w n m g q ra c S F1 v (ND k) wr) (fun _ i _ => n - (intOf i).toNat)
  case atStart => exact ⟨0, Nat.zero_le _, rfl, HN2.out⟩
  case round =>
    obtain ⟨k, hk, rfl, hop⟩ := hrel
    have HOP : Hid (OJ w n m g q ra c S F1 u5 (ND k) wr) := hop
    clear hop
    by_cases hlt : k < n
    · have hkz : (k : Int) < (n : Int) := by omega
      obtain ⟨y0, q0, q1⟩ := HOP.out.pk
      have HNk : Hid (∀ (W : World), Wds W g m F1 → Calls Try.prog 45 #[pv n m g, .int .i64 (k : Int)] W fun e w' => e = .returned (.bool (NB k)) ∧ Below W.heap.size W w') := fun W h => HND.out W g k hlt h
      cases hB : NB k
      rotate_left
      · rw [hB] at HNk
        have HT : Hid (ND (k + 1) = ND k) := HNo.out k hB
        clear hB
        go_wp2_with fail
        refine (HNk.out _ HOP.out.wds).mono ?_
        rintro e w3 ⟨rfl, hb⟩
        have HOP3 : Hid (OJ w n m g q ra c S F1 u5 (ND k) w3) := HOP.out.below hb
        clear hb q0 q1 y0
        go_wp2
        go_roundw
        case rel => exact ⟨k + 1, by omega, by go_num, by rw [HT.out]; exact HOP3.out⟩
        case measure => simp [intOf]; omega
      · rw [hB] at HNk
        have HT : Hid (ND (k + 1) = ND k ++ [(k : Int)]) := HY.out k hB
        have HL : Hid ((ND k).length ≤ k) := HLe.out k
        clear hB
        go_wp2_with fail
        refine (HNk.out _ HOP.out.wds).mono ?_
        rintro e w3 ⟨rfl, hb⟩
        have HOP3 : Hid (OJ w n m g q ra c S F1 u5 (ND k) w3) := HOP.out.below hb
        clear hb q0 q1 y0
        have hsz := HOP3.out.on.siz
        go_wp2_with (at_builtin; go_must (refine app_int _ rfl _ _ rfl (w.heap.size + 1) u5 (ND k) (k : Int) rfl rfl HOP3.out.on.own hsz (by have := HL.out; omega) ?_; intro g5 cp5 w5 ho5 hk5 hg5; have HO5 : Hid (OJ w n m g q ra c S F1 (.slice (some ⟨g5, 0, none⟩) ((ND k).length + 1) cp5) (ND k ++ [(k : Int)]) w5) := HOP3.out.next hnw hk5 hg5 ho5; clear ho5 hk5 hg5))
        go_roundw
        case rel => exact ⟨k + 1, by omega, by go_num, by rw [HT.out]; exact HO5.out⟩
        case measure => simp [intOf]; omega
    · have HKN : Hid (k = n) := by show _ = _; omega
      obtain ⟨av, cv, hv, hwi⟩ := HOP.out.on.wints
      obtain ⟨g9, l9, c9, hv9⟩ := HOP.out.som
      rw [HKN.out] at hv hwi
      subst hv
      injection hv9 with e1 e2 e3
      subst e1
      have HWI : Hid (WInts wr w.heap.size (some ⟨g9, 0, none⟩) (ND n)) := hwi
      have HBX : Hid (Below w.heap.size w wr) := HOP.out.on.bel
      clear hwi HOP
      go_wp2
      go_ret
      exact ⟨⟨_, _, rfl, HWI.out⟩, HBX.out⟩

end Go.Proofs.Yteplffphkakliaa.Dp6b
