/- The program's functions over tables: needs. -/
import Derived.Test.YteplffphkakliaaTe1
import Derived.Test.YteplffphkakliaaTd5
namespace Go.Proofs.Yteplffphkakliaa.Te4
open Go.RowKit
open Ta0 Ta1 Ta2 Tc2 Tc4 Tc5 Tc6 Tc7 Tc8 Td1 Td2 Td5 Te1 Ap0
open Nd0 (Kept Ints WInts set_other set_same lt_of_cell)
open Ss0 (bs bs_size ret_str bs_ext)
open Ss1 (tl tl_length tl_get tl_take bs_tl tl_bs tl_inj eqb)
set_option linter.unusedVariables false

theorem nd_upto (n : Nat) (F : Nat → Bool) (b : Nat) (hb : b < n) : ((List.range (2 ^ n)).any fun p => upto (2 ^ n) F p != upto (2 ^ n) F (p ^^^ 2 ^ (n - 1 - b))) = ndB n F b := by
  unfold ndB
  rw [Bool.eq_iff_iff, List.any_eq_true, List.any_eq_true]
  have e : ∀ p, p < 2 ^ n → (upto (2 ^ n) F p != upto (2 ^ n) F (p ^^^ 2 ^ (n - 1 - b))) = (F p != F (p ^^^ 2 ^ (n - 1 - b))) := fun p hp => by
    have h2 : p ^^^ 2 ^ (n - 1 - b) < 2 ^ n := Nat.xor_lt_two_pow hp (Nat.pow_lt_pow_right (by omega) (by omega))
    simp [upto, hp, h2]
  constructor
  · rintro ⟨p, hp, h⟩
    exact ⟨p, hp, by rw [e p (List.mem_range.1 hp)] at h; exact h⟩
  · rintro ⟨p, hp, h⟩
    exact ⟨p, hp, by rw [e p (List.mem_range.1 hp)]; exact h⟩

set_option maxHeartbeats 2000000 in
theorem iNeeds0 {N : Int} {S : ByteArray} (w : World) (hS : S.size ≤ 1048576) (h : tokB N (tl S) = false) :
    Calls Try.prog 15 #[tv N S] w fun e w' => (∃ a' c', e = .returned (.slice a' 0 c') ∧ WInts w' w.heap.size a' []) ∧ Below w.heap.size w w' := by
  have HO : Hid (∀ W, Calls Try.prog 46 #[tv N S] W fun e w' => e = .returned (.bool false) ∧ Below W.heap.size W w') := fun W => iOk0 W hS h
  have HN0 : Hid (ON w N S (.slice (some ⟨w.heap.size + 1, 0, none⟩) 0 0) [] ((w.alloc (.cells #[.int .i64 N, .string S] 26)).alloc (.cells #[] 3))) := ON.start w N S
  clear h
  go_enter Try.func15, Try.ntmps15
  go_wp2_with fail
  refine (HO.out _).mono ?_
  rintro e w1 ⟨rfl, hb⟩
  have HN1 : Hid (ON w N S (.slice (some ⟨w.heap.size + 1, 0, none⟩) 0 0) [] w1) := HN0.out.below hb
  clear hb
  go_wp2
  go_ret
  exact ⟨⟨_, _, rfl, Nat.zero_le _, .inl rfl⟩, HN1.out.bel⟩

/-- What stands while the program collects the bits that a table needs. -/
structure OP (w : World) (n m g q : Nat) (S : ByteArray) (F : Nat → Bool) (v : Value) (l : List Int) (W : World) : Prop where
  on : ON w (n : Int) S v l W
  pk : Lay W q (.int .i64 (n : Int)) (.slice (some ⟨g, 0, none⟩) m m)
  wds : Wds W g m F
  sep : ∀ i, v.ownBlock = some i → i ≠ g ∧ i ≠ q
theorem OP.below {w W W' : World} {n m g q : Nat} {S : ByteArray} {F : Nat → Bool} {v : Value} {l : List Int} (h : OP w n m g q S F v l W) (k : Below W.heap.size W W') : OP w n m g q S F v l W' :=
  ⟨h.on.below k, h.pk.below k, h.wds.below k, h.sep⟩
theorem OP.next {w W W' : World} {n m g q g5 len cp : Nat} {S : ByteArray} {F : Nat → Bool} {v : Value} {l l' : List Int} (h : OP w n m g q S F v l W) (hm : 1 ≤ m) (hk : Kept (fun k => v.ownBlock = some k) W W') (hg : v.ownBlock = some g5 ∨ W.heap.size ≤ g5) (ho : Ows W' (w.heap.size + 1) (.slice (some ⟨g5, 0, none⟩) len cp) l') : OP w n m g q S F (.slice (some ⟨g5, 0, none⟩) len cp) l' W' :=
  ⟨h.on.next hk ho, h.pk.kept hk (fun e => (h.sep _ e).2 rfl), h.wds.kept hk (fun e => (h.sep _ e).1 rfl), fun i hi => by
    have hi' : g5 = i := by simpa [Value.ownBlock] using hi
    subst hi'
    rcases hg with e | e
    · exact h.sep _ e
    · have h1 := h.wds.lt hm
      have h2 := h.pk.lt
      omega⟩

set_option maxRecDepth 100000 in
set_option maxHeartbeats 4000000 in
theorem iNeeds (n : Nat) (F : Nat → Bool) (w : World) (hn : n ≤ 12) :
    Calls Try.prog 15 #[tv (n : Int) (bs (tab n F))] w fun e w' => (∃ a' c', e = .returned (.slice a' (ndTo n F n).length c') ∧ WInts w' w.heap.size a' (ndTo n F n)) ∧ Below w.heap.size w w' := by
  have HO : Hid (∀ W, Calls Try.prog 46 #[tv (n : Int) (bs (tab n F))] W fun e w' => e = .returned (.bool true) ∧ Below W.heap.size W w') := fun W => iOk1 n F W hn
  have HPK : Hid (∀ W, Calls Try.prog 47 #[tv (n : Int) (bs (tab n F))] W fun e w' => ∃ g, e = .returned (pv n (nw n) g) ∧ W.heap.size ≤ g ∧ Wds w' g (nw n) (upto (2 ^ n) F) ∧ Below W.heap.size W w') := fun W => pack n F W hn
  have HND : Hid (∀ (W : World) (g b : Nat), b < n → Wds W g (nw n) (upto (2 ^ n) F) → Calls Try.prog 45 #[pv n (nw n) g, .int .i64 (b : Int)] W fun e w' => e = .returned (.bool (ndB n F b)) ∧ Below W.heap.size W w') := fun W g b h1 h2 => by
    have := needs n g b _ W hn h1 h2
    rwa [nd_upto n F b h1] at this
  have HY : Hid (∀ b, ndB n F b = true → ndTo n F (b + 1) = ndTo n F b ++ [(b : Int)]) := fun b h => ndTo_yes h
  have HNo : Hid (∀ b, ndB n F b = false → ndTo n F (b + 1) = ndTo n F b) := fun b h => ndTo_no h
  have HLe : Hid (∀ k, (ndTo n F k).length ≤ k) := fun k => ndTo_le n k F
  have HZ : Hid (ndTo n F 0 = []) := rfl
  have hnw := (nw_le hn).1
  generalize ndB n F = NB at *
  generalize ndTo n F = ND at *
  generalize bs (tab n F) = S at *
  generalize upto (2 ^ n) F = F1 at *
  generalize nw n = m at *
  have HN0 : Hid (ON w (n : Int) S (.slice (some ⟨w.heap.size + 1, 0, none⟩) 0 0) [] ((w.alloc (.cells #[.int .i64 (n : Int), .string S] 26)).alloc (.cells #[] 3))) := ON.start w n S
  go_enter Try.func15, Try.ntmps15
  go_wp2_with fail
  refine (HO.out _).mono ?_
  rintro e w1 ⟨rfl, hb⟩
  have HN1 : Hid (ON w (n : Int) S (.slice (some ⟨w.heap.size + 1, 0, none⟩) 0 0) (ND 0) w1) := by
    show ON _ _ _ _ _ _
    rw [HZ.out]; exact HN0.out.below hb
  clear hb
  obtain ⟨x0, x1, _, _⟩ := HN1.out.lay
  go_wp2_with fail
  refine (HPK.out _).mono ?_
  rintro e w2 ⟨g, rfl, hg, hw2, hb⟩
  have HN2 : Hid (OP w n m g w2.heap.size S F1 (.slice (some ⟨w.heap.size + 1, 0, none⟩) 0 0) (ND 0) (w2.alloc (.cells #[.int .i64 (n : Int), .slice (some ⟨g, 0, none⟩) m m] 60))) :=
    ⟨(HN1.out.below hb).below ((Below.refl _ _).alloc (Nat.le_refl _) _), Lay.made _ _ _ _, hw2.below ((Below.refl _ _).alloc (Nat.le_refl _) _), fun i hi => by
      have hi' : w.heap.size + 1 = i := by simpa [Value.ownBlock] using hi
      have h1 := HN1.out.siz
      have h2 := hb.size
      have h3 : w.heap.size + 1 < w1.heap.size := (HN1.out.own.lt (w.heap.size + 1) (by simp [Value.ownBlock])).2
      omega⟩
  clear hb hw2 x0 x1
  obtain ⟨x0, x1, _, _⟩ := HN2.out.on.lay
  go_wp2_with fail
  clear x0 x1
  go_loopw [3, 15] (fun v i wr => ∃ k : Nat, k ≤ n ∧ i = .int .i64 k ∧ OP w n m g w2.heap.size S F1 v (ND k) wr) (fun _ i _ => n - (intOf i).toNat)
  case atStart => exact ⟨0, Nat.zero_le _, rfl, HN2.out⟩
  case round =>
    obtain ⟨k, hk, rfl, hop⟩ := hrel
    have HOP : Hid (OP w n m g w2.heap.size S F1 u3 (ND k) wr) := hop
    clear hop
    by_cases hlt : k < n
    · have hkz : (k : Int) < (n : Int) := by omega
      obtain ⟨q0, q1, _, _⟩ := HOP.out.pk
      have HNk : Hid (∀ (W : World), Wds W g m F1 → Calls Try.prog 45 #[pv n m g, .int .i64 (k : Int)] W fun e w' => e = .returned (.bool (NB k)) ∧ Below W.heap.size W w') := fun W h => HND.out W g k hlt h
      cases hB : NB k
      · rw [hB] at HNk
        have HT : Hid (ND (k + 1) = ND k) := HNo.out k hB
        clear hB
        go_wp2_with fail
        refine (HNk.out _ HOP.out.wds).mono ?_
        rintro e w3 ⟨rfl, hb⟩
        have HOP3 : Hid (OP w n m g w2.heap.size S F1 u3 (ND k) w3) := HOP.out.below hb
        clear hb q0 q1
        go_wp2
        go_roundw
        case rel => exact ⟨k + 1, by omega, by go_num, by rw [HT.out]; exact HOP3.out⟩
        case measure => simp [intOf]; omega
      · rw [hB] at HNk
        have HT : Hid (ND (k + 1) = ND k ++ [(k : Int)]) := HY.out k hB
        have HL : Hid ((ND k).length ≤ k) := HLe.out k
        clear hB
        go_wp2_with fail
        refine (HNk.out _ HOP.out.wds).mono ?_
        rintro e w3 ⟨rfl, hb⟩
        have HOP3 : Hid (OP w n m g w2.heap.size S F1 u3 (ND k) w3) := HOP.out.below hb
        clear hb q0 q1
        have hsz := HOP3.out.on.siz
        go_wp2_with (at_builtin; go_must (refine app_int _ rfl _ _ rfl (w.heap.size + 1) u3 (ND k) (k : Int) rfl rfl HOP3.out.on.own hsz (by have := HL.out; omega) ?_; intro g5 cp5 w5 ho5 hk5 hg5; have HO5 : Hid (OP w n m g w2.heap.size S F1 (.slice (some ⟨g5, 0, none⟩) ((ND k).length + 1) cp5) (ND k ++ [(k : Int)]) w5) := HOP3.out.next hnw hk5 hg5 ho5; clear ho5 hk5 hg5))
        go_roundw
        case rel => exact ⟨k + 1, by omega, by go_num, by rw [HT.out]; exact HO5.out⟩
        case measure => simp [intOf]; omega
    · have HKN : Hid (k = n) := by show _ = _; omega
      obtain ⟨av, cv, hv, hwi⟩ := HOP.out.on.wints
      rw [HKN.out] at hv hwi
      subst hv
      have HWI : Hid (WInts wr w.heap.size av (ND n)) := hwi
      have HBX : Hid (Below w.heap.size w wr) := HOP.out.on.bel
      clear hwi HOP
      go_wp2
      go_ret
      exact ⟨⟨_, _, rfl, HWI.out⟩, HBX.out⟩

end Go.Proofs.Yteplffphkakliaa.Te4
