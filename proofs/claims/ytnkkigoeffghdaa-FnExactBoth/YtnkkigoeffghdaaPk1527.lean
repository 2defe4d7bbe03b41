/- Small texts of mine, one behind the other. -/
import Derived.Test.YtnkkigoeffghdaaRows
import Derived.WalkKit
import Derived.WalkSpells
import Derived.WalkLawsBesides
import Derived.Test.YtnkkigoeffghdaaPk1521
import Derived.Test.YtnkkigoeffghdaaPk150
/- What a right tree is worth is a word of its width. -/
namespace Go.Proofs.Ytnkkigoeffghdaa.Vl2
open Nd0 Pl1 Pl2 Tm0 Tm1 Tm3 Tm5 Tm8 Tm11 Tm13 Tm14 Tr0 Vl1
set_option linter.unusedVariables false

theorem in_iff {x a b : Int} : inR x a b = true ↔ a ≤ x ∧ x ≤ b := by unfold inR; simp
theorem app_in {op W k w a b c : Int} (h1 : 1 ≤ W ∧ W ≤ 8) (h2 : 1 ≤ w ∧ w ≤ 8) (ha : 0 ≤ a ∧ a ≤ 255) (hb : 0 ≤ b ∧ b ≤ 255) (hc : 0 ≤ c ∧ c ≤ 255) : applyL op W k w a b c = opL op W k w a b c := by
  unfold applyL
  rw [in_iff.2 h1, in_iff.2 h2, in_iff.2 ha, in_iff.2 hb, in_iff.2 hc]
  rfl
theorem wok_div {m a b : Int} (ha : wok m a = true) (hb : wok m b = true) : wok m (vDiv m a b) = true := by
  unfold vDiv
  rw [ha, hb]
  obtain ⟨h1, h2, h3, h4⟩ := wok_iff.1 ha
  have h5 := wok_iff.1 hb
  simp only [Bool.and_self, if_true]
  have hp := p2_pos m.toNat
  split
  · exact wok_iff.2 ⟨h1, h2, by omega, by omega⟩
  · have := Int.ediv_nonneg h3 h5.2.2.1
    have := Int.ediv_le_self b h3
    exact wok_iff.2 ⟨h1, h2, by omega, by omega⟩
theorem wok_rem {m a b : Int} (ha : wok m a = true) (hb : wok m b = true) : wok m (vRem m a b) = true := by
  unfold vRem
  rw [ha, hb]
  obtain ⟨h1, h2, h3, h4⟩ := wok_iff.1 ha
  have h5 := wok_iff.1 hb
  simp only [Bool.and_self, if_true]
  split
  · exact ha
  · rename_i hz
    have := Int.emod_nonneg a hz
    have := Int.emod_lt_of_pos a (show 0 < b by omega)
    exact wok_iff.2 ⟨h1, h2, by omega, by omega⟩
theorem wok_shl {m a b : Int} (ha : wok m a = true) (hb : wok m b = true) : wok m (vShl m a b) = true := by
  unfold vShl
  rw [ha, hb]
  obtain ⟨h1, h2, h3, h4⟩ := wok_iff.1 ha
  simp only [Bool.and_self, if_true]
  split
  · exact wok_zero h1 h2
  · exact wok_mod _ h1 h2
theorem wok_shr {m a b : Int} (ha : wok m a = true) (hb : wok m b = true) : wok m (vShr m a b) = true := by
  unfold vShr
  rw [ha, hb]
  obtain ⟨h1, h2, h3, h4⟩ := wok_iff.1 ha
  simp only [Bool.and_self, if_true]
  split
  · exact wok_zero h1 h2
  · have hp := p2_pos b.toNat
    have := Int.ediv_nonneg h3 (show 0 ≤ p2 b.toNat by omega)
    have := Int.ediv_le_self (p2 b.toNat) h3
    exact wok_iff.2 ⟨h1, h2, by omega, by omega⟩
theorem wok_slice {w a k n : Int} (h1 : 1 ≤ n) (h2 : n ≤ 8) : wok n (vSlice w a k n) = true := by
  unfold vSlice
  split
  · exact wok_mod _ h1 h2
  · exact wok_zero h1 h2
theorem wok_bit (p : Prop) [Decidable p] : wok 1 (if p then 1 else 0) = true := by
  split <;> rfl
theorem p2_nat (w : Int) : p2 w.toNat = ((2 ^ w.toNat : Nat) : Int) := by unfold p2; simp
theorem wok_nat {w a : Int} (h : wok w a = true) : a.toNat < 2 ^ w.toNat := by
  obtain ⟨h1, h2, h3, h4⟩ := wok_iff.1 h
  rw [p2_nat] at h4
  omega
theorem wok_of_nat {w : Int} {n : Nat} (h1 : 1 ≤ w) (h2 : w ≤ 8) (h : n < 2 ^ w.toNat) : wok w (n : Int) = true := wok_iff.2 ⟨h1, h2, by omega, by rw [p2_nat]; omega⟩
theorem wok_and {w a b : Int} (ha : wok w a = true) (hb : wok w b = true) : wok w (nAnd a b) = true := by
  obtain ⟨h1, h2, _, _⟩ := wok_iff.1 ha
  exact wok_of_nat h1 h2 (Nat.and_lt_two_pow _ (wok_nat hb))
theorem wok_or {w a b : Int} (ha : wok w a = true) (hb : wok w b = true) : wok w (nOr a b) = true := by
  obtain ⟨h1, h2, _, _⟩ := wok_iff.1 ha
  exact wok_of_nat h1 h2 (Nat.or_lt_two_pow (wok_nat ha) (wok_nat hb))
theorem wok_xor {w a b : Int} (ha : wok w a = true) (hb : wok w b = true) : wok w (nXor a b) = true := by
  obtain ⟨h1, h2, _, _⟩ := wok_iff.1 ha
  exact wok_of_nat h1 h2 (Nat.xor_lt_two_pow (wok_nat ha) (wok_nat hb))
theorem wok_join {W x y a b : Int} (h8 : W ≤ 8) (hw : x + y = W) (ha : wok x a = true) (hb : wok y b = true) : wok W (a * p2 (W - x).toNat + b) = true := by
  obtain ⟨a1, a2, a3, a4⟩ := wok_iff.1 ha
  obtain ⟨b1, b2, b3, b4⟩ := wok_iff.1 hb
  have e : W - x = y := by omega
  rw [e]
  have hp : p2 W.toNat = p2 x.toNat * p2 y.toNat := by
    unfold p2
    rw [← Int.pow_add]
    congr 1; omega
  have hy := p2_pos y.toNat
  refine wok_iff.2 ⟨by omega, h8, ?_, ?_⟩
  · have := Int.mul_nonneg a3 (show 0 ≤ p2 y.toNat by omega)
    omega
  · rw [hp]
    have h1 : (a + 1) * p2 y.toNat ≤ p2 x.toNat * p2 y.toNat := Int.mul_le_mul_of_nonneg_right (by omega) (by omega)
    rw [Int.add_mul] at h1
    omega

/-- Each variable that is wanted has a word of each width with which it is. -/
def Fits (r : List Nat) (e : List Int) : Prop := ∀ v, v < 8 → ∀ j, 1 ≤ j → j ≤ 8 → (r.getD v 0).testBit j = true → wok (j : Int) (e.getD v 0) = true
theorem fit_iff {r : List Nat} {e : List Int} : fitR r e = true ↔ Fits r e := by
  unfold fitR Fits
  simp only [List.all_eq_true, List.mem_range, Bool.or_eq_true, Bool.not_eq_true']
  constructor
  · intro h v hv j h1 h8 hb
    rcases h v hv (j - 1) (by omega) with e1 | e1
    · rw [show j - 1 + 1 = j by omega, hb] at e1; cases e1
    · have e2 : ((j - 1 : Nat) : Int) + 1 = (j : Int) := by omega
      rw [e2] at e1
      exact e1
  · intro h v hv j hj
    cases hb : (r.getD v 0).testBit (j + 1)
    · exact .inl rfl
    · have := h v hv (j + 1) (by omega) (by omega) hb
      refine .inr ?_
      have e2 : ((j + 1 : Nat) : Int) = (j : Int) + 1 := by omega
      rw [e2] at this
      exact this
theorem or_at (r s : List Nat) {v : Nat} (hv : v < 8) : (orL r s).getD v 0 = (r.getD v 0 ||| s.getD v 0) := by
  unfold orL
  rw [List.getD_eq_getElem?_getD, List.getElem?_map, List.getElem?_range hv]
  rfl
theorem Fits.left {r s : List Nat} {e : List Int} (h : Fits (orL r s) e) : Fits r e := fun v hv j h1 h8 hb => h v hv j h1 h8 (by rw [or_at r s hv, Nat.testBit_or, hb]; rfl)
theorem Fits.right {r s : List Nat} {e : List Int} (h : Fits (orL r s) e) : Fits s e := fun v hv j h1 h8 hb => h v hv j h1 h8 (by rw [or_at r s hv, Nat.testBit_or, hb, Bool.or_true])
theorem need_len : ∀ (x : Tr) (r : List Nat), needT x = some r → r.length = 8 := by
  intro x
  induction x with
  | leaf op w k => intro r h; simp only [needT] at h; cases h; simp
  | one op w k b x ih =>
    intro r h
    simp only [needT] at h
    obtain ⟨s, h1, h⟩ := Option.bind_eq_some_iff.1 h
    split at h
    · split at h
      · cases h
      · cases h; rw [List.length_set]; exact ih s h1
    · cases h; exact ih _ h1
  | two op w x y ih1 ih2 =>
    intro r h
    simp only [needT] at h
    obtain ⟨s, h1, h⟩ := Option.bind_eq_some_iff.1 h
    obtain ⟨u, h2, h⟩ := Option.bind_eq_some_iff.1 h
    cases h
    simp [orL]
  | three op w x y z ih1 ih2 ih3 =>
    intro r h
    simp only [needT] at h
    obtain ⟨s, h1, h⟩ := Option.bind_eq_some_iff.1 h
    obtain ⟨u, h2, h⟩ := Option.bind_eq_some_iff.1 h
    obtain ⟨u', h3, h⟩ := Option.bind_eq_some_iff.1 h
    cases h
    simp [orL]
/-- Below a quantifier its variable may have each of its values. -/
theorem Fits.below {s : List Nat} {e : List Int} {k b : Int} {i : Nat} (hs : s.length = 8) (he : e.length = 8) (hk : 0 ≤ k ∧ k ≤ 7) (hb : 1 ≤ b ∧ b ≤ 8) (hi : i < 2 ^ b.toNat) (hq : ¬ (s.getD k.toNat 0 ≠ 0 ∧ s.getD k.toNat 0 ≠ 2 ^ b.toNat)) (h : Fits (s.set k.toNat 0) e) : Fits s (e.set k.toNat (i : Int)) := by
  intro v hv j h1 h8 hbt
  by_cases hvk : v = k.toNat
  · subst hvk
    have hget : (e.set k.toNat (i : Int)).getD k.toNat 0 = (i : Int) := by
      rw [List.getD_eq_getElem?_getD, List.getElem?_set_self (by omega)]; rfl
    rw [hget]
    have hs2 : s.getD k.toNat 0 = 2 ^ b.toNat := by
      apply Classical.byContradiction
      intro hn
      refine hq ⟨fun e0 => ?_, hn⟩
      rw [e0] at hbt
      simp at hbt
    rw [hs2, Nat.testBit_two_pow] at hbt
    have hj : b.toNat = j := of_decide_eq_true hbt
    exact wok_of_nat (by omega) (by omega) (by rw [show ((j : Nat) : Int).toNat = b.toNat by omega]; exact hi)
  · have hget : (e.set k.toNat (i : Int)).getD v 0 = e.getD v 0 := by
      rw [List.getD_eq_getElem?_getD, List.getD_eq_getElem?_getD, List.getElem?_set_ne (fun e => hvk e.symm)]
    rw [hget]
    refine h v hv j h1 h8 ?_
    rw [List.getD_eq_getElem?_getD, List.getElem?_set_ne (fun e => hvk e.symm), ← List.getD_eq_getElem?_getD]
    exact hbt
theorem value_word : ∀ (x : Tr) (r : List Nat) (e : List Int), Rt x → needT x = some r → e.length = 8 → Fits r e → wok x.wid (vT x e) = true := by
  intro x
  induction x with
  | leaf op w k =>
    intro r e hr hn he hf
    obtain ⟨h1, h8, h⟩ := hr
    simp only [needT] at hn
    cases hn
    simp only [vT]
    show wok w _ = true
    rcases h with ⟨rfl, hk⟩ | ⟨rfl, hk0, hk7⟩
    · rw [if_neg (by decide), app_in ⟨h1, h8⟩ (by decide) (by decide) (by decide) (by decide)]
      exact hk
    · rw [if_pos rfl]
      have := hf k.toNat (by omega) w.toNat (by omega) (by omega) (by
        rw [List.getD_eq_getElem?_getD, List.getElem?_map, List.getElem?_range (by omega)]
        simp only [Option.map_some, Option.getD_some]
        rw [if_pos ⟨trivial, by omega⟩, Nat.testBit_two_pow]
        simp)
      rw [show ((w.toNat : Nat) : Int) = w by omega] at this
      exact this
  | one op w k b x ih =>
    intro r e hr hn he hf
    obtain ⟨h1, h8, hx, h⟩ := hr
    have hxw := hx.wid
    simp only [needT] at hn
    obtain ⟨s, h2, hn⟩ := Option.bind_eq_some_iff.1 hn
    simp only [vT]
    show wok w _ = true
    rcases h with ⟨rfl, hw⟩ | ⟨rfl, hk⟩ | ⟨ho, hx1, rfl, hk0, hk7, hb1, hb8⟩
    · rw [if_neg (by decide), if_neg (by decide)]
      rw [show quant 2 = false from rfl] at hn
      simp only [Bool.false_eq_true, if_false] at hn
      have hsr : s = r := Option.some.inj hn
      subst hsr
      have hv := ih s e hx h2 he hf
      rw [app_in ⟨h1, h8⟩ hxw (wok_lt hv) (by decide) (by decide)]
      rw [hw] at hv
      exact wok_flip hv
    · rw [if_neg (by decide), if_neg (by decide)]
      rw [show quant 17 = false from rfl] at hn
      simp only [Bool.false_eq_true, if_false] at hn
      have hsr : s = r := Option.some.inj hn
      subst hsr
      have hv := ih s e hx h2 he hf
      rw [app_in ⟨h1, h8⟩ hxw (wok_lt hv) (by decide) (by decide)]
      exact wok_slice h1 h8
    · rcases ho with rfl | rfl
      · rw [if_pos rfl]; exact wok_bit _
      · rw [if_neg (by decide), if_pos rfl]; exact wok_bit _
  | two op w x y ih1 ih2 =>
    intro r e hr hn he hf
    obtain ⟨h1, h8, hx, hy, h⟩ := hr
    have hxw := hx.wid
    simp only [needT] at hn
    obtain ⟨s, h2, hn⟩ := Option.bind_eq_some_iff.1 hn
    obtain ⟨u, h3, hn⟩ := Option.bind_eq_some_iff.1 hn
    cases hn
    have hv := ih1 s e hx h2 he hf.left
    have hu := ih2 u e hy h3 he hf.right
    simp only [vT]
    show wok w _ = true
    rw [app_in ⟨h1, h8⟩ hxw (wok_lt hv) (wok_lt hu) (by decide)]
    rcases h with ⟨ho1, ho2, hwx, hwy⟩ | ⟨ho1, ho2, hxy, rfl⟩ | ⟨rfl, hw⟩
    · rw [hwx] at hv ⊢
      rw [hwy] at hu
      have hc : op = 3 ∨ op = 4 ∨ op = 5 ∨ op = 6 ∨ op = 7 ∨ op = 8 ∨ op = 9 ∨ op = 10 ∨ op = 11 ∨ op = 12 := by omega
      rcases hc with rfl | rfl | rfl | rfl | rfl | rfl | rfl | rfl | rfl | rfl
      · exact wok_and hv hu
      · exact wok_or hv hu
      · exact wok_xor hv hu
      · exact wok_add hv hu
      · exact wok_sub hv hu
      · exact wok_mul hv hu
      · exact wok_div hv hu
      · exact wok_rem hv hu
      · exact wok_shl hv hu
      · exact wok_shr hv hu
    · have hc : op = 13 ∨ op = 14 ∨ op = 15 := by omega
      rcases hc with rfl | rfl | rfl
      · exact wok_bit _
      · exact wok_bit _
      · exact wok_bit _
    · have hyw := hy.wid
      show wok w (if w < x.wid then vT y e else vT x e * p2 (w - x.wid).toNat + vT y e) = true
      rw [if_neg (by omega)]
      exact wok_join h8 hw hv hu
  | three op w x y z ih1 ih2 ih3 =>
    intro r e hr hn he hf
    obtain ⟨h1, h8, hx, hy, hz, rfl, hx1, hyw, hzw⟩ := hr
    simp only [needT] at hn
    obtain ⟨s, h2, hn⟩ := Option.bind_eq_some_iff.1 hn
    obtain ⟨u, h3, hn⟩ := Option.bind_eq_some_iff.1 hn
    obtain ⟨u', h4, hn⟩ := Option.bind_eq_some_iff.1 hn
    cases hn
    have hv := ih1 s e hx h2 he hf.left.left
    have hu := ih2 u e hy h3 he hf.left.right
    have ht := ih3 u' e hz h4 he hf.right
    simp only [vT]
    show wok w _ = true
    rw [app_in ⟨h1, h8⟩ hx.wid (wok_lt hv) (wok_lt hu) (wok_lt ht)]
    show wok w (if vT x e = 1 then vT y e else vT z e) = true
    rw [hyw] at hu
    rw [hzw] at ht
    split
    · exact hu
    · exact ht
/-- What a term is worth is a word of its root's width. -/
theorem value_wok {l : List Nd} {e : List Int} {x : Int} (h : valueL l e = some x) : wok (nth l (l.length - 1)).w x = true := by
  unfold valueL at h
  split at h
  · rename_i hc
    simp only [Bool.and_eq_true, decide_eq_true_eq] at hc
    obtain ⟨⟨⟨hT, he⟩, hb⟩, hf⟩ := hc
    cases h
    have hl := term_len hT
    have hr := rt_all (down_of hT) (fun k hk => term_node hT hk) (l.length - 1) (by omega)
    unfold fitT at hf
    cases hn : needT (root l) with
    | none => rw [hn] at hf; cases hf
    | some r =>
      rw [hn] at hf
      have := value_word (root l) r e hr.1 hn he (fit_iff.1 hf)
      unfold root at this ⊢
      rw [hr.2] at this
      exact this
  · cases h

end Go.Proofs.Ytnkkigoeffghdaa.Vl2

/- Bits of small numbers. -/
namespace Go.Proofs.Ytnkkigoeffghdaa.Bt0
open Go.RowKit
open Pl1 Vl1 Vl2
set_option linter.unusedVariables false

theorem nat8 {a : Int} (h : 0 ≤ a ∧ a ≤ 255) : ∃ m : Nat, a = (m : Int) ∧ m < 2 ^ 8 := ⟨a.toNat, by omega, by omega⟩
theorem wrap8 {m : Nat} (h : m < 2 ^ 8) : IntKind.i64.wrap (m : Int) = (m : Int) := by rw [IntKind.wrap_i64]; omega
theorem mod64 {m : Nat} (h : m < 2 ^ 8) : m % 2 ^ 64 = m := Nat.mod_eq_of_lt (by omega)
theorem band {a b : Int} (ha : 0 ≤ a ∧ a ≤ 255) (hb : 0 ≤ b ∧ b ≤ 255) : bits .and .i64 a b = nAnd a b := by
  obtain ⟨m, rfl, hm⟩ := nat8 ha
  obtain ⟨n, rfl, hn⟩ := nat8 hb
  have e : bits .and .i64 (m : Int) (n : Int) = IntKind.i64.wrap ((BitVec.ofInt 64 (m : Int) &&& BitVec.ofInt 64 (n : Int)).toNat : Int) := rfl
  rw [e, BitVec.toNat_and, BitVec.ofInt_natCast, BitVec.ofInt_natCast, BitVec.toNat_ofNat, BitVec.toNat_ofNat, mod64 hm, mod64 hn, wrap8 (Nat.and_lt_two_pow _ hn)]
  rfl
theorem bor {a b : Int} (ha : 0 ≤ a ∧ a ≤ 255) (hb : 0 ≤ b ∧ b ≤ 255) : bits .or .i64 a b = nOr a b := by
  obtain ⟨m, rfl, hm⟩ := nat8 ha
  obtain ⟨n, rfl, hn⟩ := nat8 hb
  have e : bits .or .i64 (m : Int) (n : Int) = IntKind.i64.wrap ((BitVec.ofInt 64 (m : Int) ||| BitVec.ofInt 64 (n : Int)).toNat : Int) := rfl
  rw [e, BitVec.toNat_or, BitVec.ofInt_natCast, BitVec.ofInt_natCast, BitVec.toNat_ofNat, BitVec.toNat_ofNat, mod64 hm, mod64 hn, wrap8 (Nat.or_lt_two_pow hm hn)]
  rfl
theorem bxor {a b : Int} (ha : 0 ≤ a ∧ a ≤ 255) (hb : 0 ≤ b ∧ b ≤ 255) : bits .xor .i64 a b = nXor a b := by
  obtain ⟨m, rfl, hm⟩ := nat8 ha
  obtain ⟨n, rfl, hn⟩ := nat8 hb
  have e : bits .xor .i64 (m : Int) (n : Int) = IntKind.i64.wrap ((BitVec.ofInt 64 (m : Int) ^^^ BitVec.ofInt 64 (n : Int)).toNat : Int) := rfl
  rw [e, BitVec.toNat_xor, BitVec.ofInt_natCast, BitVec.ofInt_natCast, BitVec.toNat_ofNat, BitVec.toNat_ofNat, mod64 hm, mod64 hn, wrap8 (Nat.xor_lt_two_pow hm hn)]
  rfl
theorem bor16 {m n : Nat} (hm : m < 2 ^ 9) (hn : n < 2 ^ 9) : bits .or .i64 (m : Int) (n : Int) = ((m ||| n : Nat) : Int) := by
  have e : bits .or .i64 (m : Int) (n : Int) = IntKind.i64.wrap ((BitVec.ofInt 64 (m : Int) ||| BitVec.ofInt 64 (n : Int)).toNat : Int) := rfl
  have h := Nat.or_lt_two_pow hm hn
  rw [e, BitVec.toNat_or, BitVec.ofInt_natCast, BitVec.ofInt_natCast, BitVec.toNat_ofNat, BitVec.toNat_ofNat, Nat.mod_eq_of_lt (by omega), Nat.mod_eq_of_lt (by omega), IntKind.wrap_i64]
  omega

end Go.Proofs.Ytnkkigoeffghdaa.Bt0

/- Walks of chapter 1: the small functions on words, in the program and in its model. -/
namespace Go.Proofs.Ytnkkigoeffghdaa.Wd1
open Go.RowKit
open Pl1
set_option linter.unusedVariables false

theorem ret_int {k : IntKind} {a b : Int} (h : a = b) : Ending.returned (.int k a) = .returned (.int k b) := by rw [h]
theorem ret_bool {a b : Bool} (h : a = b) : Ending.returned (.bool a) = .returned (.bool b) := by rw [h]

set_option maxHeartbeats 400000 in
theorem spow (m : Int) (w : World) (h0 : 0 ≤ m) (h1 : m ≤ 8) :
    Calls Try.prog 109 #[.int .i64 m] w fun e w' => e = .returned (.int .i64 (p2 m.toNat)) ∧ w' = w := by
  obtain ⟨n, rfl⟩ := Int.eq_ofNat_of_zero_le h0
  rw [Int.toNat_natCast]
  go_enter Try.func109, Try.ntmps109
  go_wp2
  go_loop [3, 4] (fun x i => ∃ k : Nat, k ≤ n ∧ i = .int .i64 k ∧ x = .int .i64 (p2 k)) (fun _ i => n - (intOf i).toNat)
  case atStart => exact ⟨0, Nat.zero_le _, rfl, rfl⟩
  case round =>
    obtain ⟨k, hk, rfl, rfl⟩ := hrel
    have hp := p2_pos k
    have hl := p2_le k (by omega)
    by_cases hlt : k < n
    · go_wp2
      go_round
      case rel => exact ⟨k + 1, by omega, by go_num, by rw [p2_succ]⟩
      case measure => simp [intOf]; omega
    · go_wp2
      go_ret
      have : k = n := by omega
      subst this
      exact ⟨rfl, rfl⟩

set_option maxHeartbeats 400000 in
theorem mask (m : Int) (w : World) (h0 : 1 ≤ m) (h1 : m ≤ 8) :
    Calls Try.prog 181 #[.int .i64 m] w fun e w' => e = .returned (.int .u8 (p2 m.toNat - 1)) ∧ w' = w := by
  rcases eight h0 h1 with rfl | rfl | rfl | rfl | rfl | rfl | rfl | rfl
  all_goals
    go_enter Try.func181, Try.ntmps181
    go_wp2
    go_ret
    exact ⟨rfl, rfl⟩

set_option maxHeartbeats 400000 in
theorem cut (a m : Int) (w : World) (ha : 0 ≤ a) (hb : a ≤ 255) (h0 : 1 ≤ m) (h1 : m ≤ 8) :
    Calls Try.prog 180 #[.int .u8 a, .int .i64 m] w fun e w' => e = .returned (.int .u8 (a % p2 m.toNat)) ∧ w' = w := by
  have hm := and_mask a m.toNat ha hb (by omega)
  go_enter Try.func180, Try.ntmps180
  go_wp2_with (go_at_call 181; refine (mask m _ h0 h1).mono ?_; rintro e w' ⟨rfl, rfl⟩)
  go_ret
  exact ⟨rfl, rfl⟩

set_option maxHeartbeats 400000 in
theorem sIn (x a b : Int) (w : World) :
    Calls Try.prog 70 #[.int .i64 x, .int .i64 a, .int .i64 b] w fun e w' => e = .returned (.bool (decide (a ≤ x ∧ x ≤ b))) ∧ w' = w := by
  by_cases h1 : a ≤ x <;> by_cases h2 : x ≤ b
  all_goals
    go_enter Try.func70, Try.ntmps70
    go_wp2
    go_ret
    exact ⟨ret_bool (by simp <;> omega), rfl⟩

set_option maxHeartbeats 400000 in
theorem sWordOk (m a : Int) (w : World) :
    Calls Try.prog 130 #[.int .i64 m, .int .i64 a] w fun e w' => e = .returned (.bool (wok m a)) ∧ w' = w := by
  by_cases h : 1 ≤ m ∧ m ≤ 8
  · have hp := p2_pos m.toNat
    have hl := p2_le m.toNat (by omega)
    have hd : decide (1 ≤ m ∧ m ≤ 8) = true := by simpa using h
    go_enter Try.func130, Try.ntmps130
    go_wp2_with (first | (go_at_call 70; refine (sIn _ _ _ _).mono ?_; rintro e w' ⟨rfl, rfl⟩) | (go_at_call 109; refine (spow m _ (by omega) (by omega)).mono ?_; rintro e w' ⟨rfl, rfl⟩))
    go_ret
    exact ⟨ret_bool (by rw [Bool.eq_iff_iff]; simp [wok]; omega), rfl⟩
  · have hd : decide (1 ≤ m ∧ m ≤ 8) = false := by simpa using h
    go_enter Try.func130, Try.ntmps130
    go_wp2_with (go_at_call 70; refine (sIn _ _ _ _).mono ?_; rintro e w' ⟨rfl, rfl⟩)
    go_ret
    exact ⟨ret_bool (by unfold wok; symm; rw [decide_eq_false_iff_not]; omega), rfl⟩

set_option maxHeartbeats 400000 in
theorem sTwo (m a b : Int) (w : World) :
    Calls Try.prog 131 #[.int .i64 m, .int .i64 a, .int .i64 b] w fun e w' => e = .returned (.bool (wok m a && wok m b)) ∧ w' = w := by
  cases hA : wok m a
  all_goals
    go_enter Try.func131, Try.ntmps131
    go_wp2_with (go_at_call 130; refine (sWordOk _ _ _).mono ?_; rintro e w' ⟨rfl, rfl⟩)
    go_ret
    exact ⟨ret_bool (by simp), rfl⟩

set_option maxHeartbeats 400000 in
theorem iWidthOk (m : Int) (w : World) :
    Calls Try.prog 126 #[.int .i64 m] w fun e w' => e = .returned (.bool (decide (1 ≤ m ∧ m ≤ 8))) ∧ w' = w := by
  by_cases h1 : 1 ≤ m <;> by_cases h2 : m ≤ 8
  all_goals
    go_enter Try.func126, Try.ntmps126
    go_wp2
    go_ret
    exact ⟨ret_bool (by simp <;> omega), rfl⟩

set_option maxHeartbeats 400000 in
theorem iWordOk (m a : Int) (w : World) :
    Calls Try.prog 138 #[.int .i64 m, .int .i64 a] w fun e w' => e = .returned (.bool (wok m a)) ∧ w' = w := by
  by_cases h : 1 ≤ m ∧ m ≤ 8
  · have hd : decide (1 ≤ m ∧ m ≤ 8) = true := by simpa using h
    by_cases ha : 0 ≤ a
    all_goals
      go_enter Try.func138, Try.ntmps138
      go_wp2_with (go_at_call 126; refine (iWidthOk _ _).mono ?_; rintro e w' ⟨rfl, rfl⟩)
      go_ret
      exact ⟨ret_bool (by rw [Bool.eq_iff_iff]; try rw [wrap_p2 _ (by omega)]
                          simp [wok]; omega), rfl⟩
  · have hd : decide (1 ≤ m ∧ m ≤ 8) = false := by simpa using h
    go_enter Try.func138, Try.ntmps138
    go_wp2_with (go_at_call 126; refine (iWidthOk _ _).mono ?_; rintro e w' ⟨rfl, rfl⟩)
    go_ret
    exact ⟨ret_bool (by unfold wok; symm; rw [decide_eq_false_iff_not]; omega), rfl⟩

set_option maxHeartbeats 400000 in
theorem iTwo (m a b : Int) (w : World) :
    Calls Try.prog 171 #[.int .i64 m, .int .i64 a, .int .i64 b] w fun e w' => e = .returned (.bool (wok m a && wok m b)) ∧ w' = w := by
  cases hA : wok m a
  all_goals
    go_enter Try.func171, Try.ntmps171
    go_wp2_with (go_at_call 138; refine (iWordOk _ _ _).mono ?_; rintro e w' ⟨rfl, rfl⟩)
    go_ret
    exact ⟨ret_bool (by simp), rfl⟩

set_option maxHeartbeats 400000 in
theorem plus (a b m : Int) (w : World) (ha : 0 ≤ a) (ha' : a ≤ 255) (hb : 0 ≤ b) (hb' : b ≤ 255) (h0 : 1 ≤ m) (h1 : m ≤ 8) :
    Calls Try.prog 172 #[.int .u8 a, .int .i64 m, .int .u8 b] w fun e w' => e = .returned (.int .u8 ((a + b) % p2 m.toNat)) ∧ w' = w := by
  go_enter Try.func172, Try.ntmps172
  go_wp2_with (go_at_call 180; refine (cut _ m _ (by omega) (by omega) h0 h1).mono ?_; rintro e w' ⟨rfl, rfl⟩)
  go_ret
  exact ⟨ret_int (mod256 _ _ (by omega)), rfl⟩

set_option maxHeartbeats 400000 in
theorem minus (a b m : Int) (w : World) (ha : 0 ≤ a) (ha' : a ≤ 255) (hb : 0 ≤ b) (hb' : b ≤ 255) (h0 : 1 ≤ m) (h1 : m ≤ 8) :
    Calls Try.prog 173 #[.int .u8 a, .int .i64 m, .int .u8 b] w fun e w' => e = .returned (.int .u8 ((a - b) % p2 m.toNat)) ∧ w' = w := by
  go_enter Try.func173, Try.ntmps173
  go_wp2_with (go_at_call 180; refine (cut _ m _ (by omega) (by omega) h0 h1).mono ?_; rintro e w' ⟨rfl, rfl⟩)
  go_ret
  exact ⟨ret_int (mod256 _ _ (by omega)), rfl⟩

set_option maxHeartbeats 400000 in
theorem times (a b m : Int) (w : World) (ha : 0 ≤ a) (ha' : a ≤ 255) (hb : 0 ≤ b) (hb' : b ≤ 255) (h0 : 1 ≤ m) (h1 : m ≤ 8) :
    Calls Try.prog 174 #[.int .u8 a, .int .i64 m, .int .u8 b] w fun e w' => e = .returned (.int .u8 (a * b % p2 m.toNat)) ∧ w' = w := by
  go_enter Try.func174, Try.ntmps174
  go_wp2_with (go_at_call 180; refine (cut _ m _ (by omega) (by omega) h0 h1).mono ?_; rintro e w' ⟨rfl, rfl⟩)
  go_ret
  exact ⟨ret_int (mod256 _ _ (by omega)), rfl⟩

set_option maxHeartbeats 400000 in
theorem over (a b m : Int) (w : World) (ha : 0 ≤ a) (ha' : a ≤ 255) (hb : 0 ≤ b) (hb' : b ≤ 255) (h0 : 1 ≤ m) (h1 : m ≤ 8) :
    Calls Try.prog 175 #[.int .u8 a, .int .i64 m, .int .u8 b] w fun e w' => e = .returned (.int .u8 (if b = 0 then p2 m.toNat - 1 else a / b)) ∧ w' = w := by
  by_cases hz : b = 0
  · subst hz
    go_enter Try.func175, Try.ntmps175
    go_wp2_with (go_at_call 181; refine (mask m _ h0 h1).mono ?_; rintro e w' ⟨rfl, rfl⟩)
    go_ret
    exact ⟨rfl, rfl⟩
  · have hz' : (b == 0) = false := by simpa using hz
    go_enter Try.func175, Try.ntmps175
    go_wp2
    go_ret
    exact ⟨rfl, rfl⟩

set_option maxHeartbeats 400000 in
theorem rest (a b : Int) (w : World) (ha : 0 ≤ a) (ha' : a ≤ 255) (hb : 0 ≤ b) (hb' : b ≤ 255) :
    Calls Try.prog 176 #[.int .u8 a, .int .u8 b] w fun e w' => e = .returned (.int .u8 (if b = 0 then a else a % b)) ∧ w' = w := by
  by_cases hz : b = 0
  · subst hz
    go_enter Try.func176, Try.ntmps176
    go_wp2
    go_ret
    exact ⟨rfl, rfl⟩
  · have hz' : (b == 0) = false := by simpa using hz
    go_enter Try.func176, Try.ntmps176
    go_wp2
    go_ret
    exact ⟨rfl, rfl⟩

set_option maxHeartbeats 400000 in
theorem up (a b m : Int) (w : World) (ha : 0 ≤ a) (ha' : a ≤ 255) (hb : 0 ≤ b) (hb' : b ≤ 7) (h0 : 1 ≤ m) (h1 : m ≤ 8) :
    Calls Try.prog 177 #[.int .u8 a, .int .i64 m, .int .u8 b] w fun e w' => e = .returned (.int .u8 (a * p2 b.toNat % p2 m.toNat)) ∧ w' = w := by
  go_enter Try.func177, Try.ntmps177
  go_wp2_with (go_at_call 180; refine (cut _ m _ (by omega) (by omega) h0 h1).mono ?_; rintro e w' ⟨rfl, rfl⟩)
  go_ret
  exact ⟨ret_int (mod256 _ _ (by omega)), rfl⟩

set_option maxHeartbeats 400000 in
theorem upFar (a b m : Int) (w : World) (ha : 0 ≤ a) (ha' : a ≤ 255) (hb : 8 ≤ b) (h0 : 1 ≤ m) (h1 : m ≤ 8) :
    Calls Try.prog 177 #[.int .u8 a, .int .i64 m, .int .u8 b] w fun e w' => e = .returned (.int .u8 0) ∧ w' = w := by
  have hs := shl8 a b .u8 hb
  go_enter Try.func177, Try.ntmps177
  go_wp2_with (go_at_call 180; refine (cut _ m _ (by omega) (by omega) h0 h1).mono ?_; rintro e w' ⟨rfl, rfl⟩)
  go_ret
  exact ⟨ret_int (by simp), rfl⟩

set_option maxHeartbeats 400000 in
theorem down (a b : Int) (w : World) (ha : 0 ≤ a) (ha' : a ≤ 255) (hb : 0 ≤ b) (hb' : b ≤ 7) :
    Calls Try.prog 178 #[.int .u8 a, .int .u8 b] w fun e w' => e = .returned (.int .u8 (a / p2 b.toNat)) ∧ w' = w := by
  go_enter Try.func178, Try.ntmps178
  go_wp2
  go_ret
  exact ⟨rfl, rfl⟩

set_option maxHeartbeats 400000 in
theorem downFar (a b : Int) (w : World) (ha : 0 ≤ a) (ha' : a ≤ 255) (hb : 8 ≤ b) :
    Calls Try.prog 178 #[.int .u8 a, .int .u8 b] w fun e w' => e = .returned (.int .u8 0) ∧ w' = w := by
  have hs := shr8 a b .u8 hb ha ha'
  go_enter Try.func178, Try.ntmps178
  go_wp2
  go_ret
  exact ⟨rfl, rfl⟩

set_option maxHeartbeats 400000 in
theorem flip (a m : Int) (w : World) (ha : 0 ≤ a) (ha' : a < p2 m.toNat) (h0 : 1 ≤ m) (h1 : m ≤ 8) :
    Calls Try.prog 170 #[.int .u8 a, .int .i64 m] w fun e w' => e = .returned (.int .u8 (p2 m.toNat - 1 - a)) ∧ w' = w := by
  have hl := p2_le m.toNat (by omega)
  have hx := xor255 a ha (by omega)
  have HF : Hid ((255 - a) % p2 m.toNat = p2 m.toNat - 1 - a) := flip_spec a _ (by omega) ha ha'
  go_enter Try.func170, Try.ntmps170
  go_wp2_with (go_at_call 180; refine (cut _ m _ (by omega) (by omega) h0 h1).mono ?_; rintro e w' ⟨rfl, rfl⟩)
  go_ret
  exact ⟨ret_int HF.out, rfl⟩

set_option maxHeartbeats 400000 in
theorem signed (a m : Int) (w : World) (ha : 0 ≤ a) (ha' : a < p2 m.toNat) (h0 : 1 ≤ m) (h1 : m ≤ 8) :
    Calls Try.prog 179 #[.int .u8 a, .int .i64 m] w fun e w' => e = .returned (.int .i64 (sgn m a)) ∧ w' = w := by
  have hp := p2_le m.toNat (by omega)
  have hq := p2_pos m.toNat
  have HW : Hid (wrap64 (2 ^ m.toNat) = p2 m.toNat) := wrap_p2 _ (by omega)
  by_cases hs : p2 (m - 1).toNat ≤ a
  · have hd : (a / 2 ^ (m.toNat - 1) == 0) = false := sgn_hi h0 hs
    have HS : Hid (sgn m a = a - p2 m.toNat) := sgn_pos hs
    clear hs
    go_enter Try.func179, Try.ntmps179
    go_wp2
    go_ret
    exact ⟨ret_int (by rw [HS.out, HW.out]; unfold wrap64; omega), rfl⟩
  · have hd : (a / 2 ^ (m.toNat - 1) == 0) = true := sgn_lo h0 ha hs
    have HS : Hid (sgn m a = a) := sgn_neg hs
    clear hs
    go_enter Try.func179, Try.ntmps179
    go_wp2
    go_ret
    exact ⟨ret_int (by rw [HS.out]), rfl⟩

end Go.Proofs.Ytnkkigoeffghdaa.Wd1
