/- What a right tree is worth is a word of its width. -/
import Derived.Test.YtebejleeadofcaaVl1
namespace Go.Proofs.Ytebejleeadofcaa.Vl2
open Nd0 Pl1 Pl2 Tm0 Tm1 Tm3 Tm5 Tm8 Tm11 Tm13 Tm14 Tr0 Vl1
set_option linter.unusedVariables false

theorem in_iff {x a b : Int} : inR x a b = true ↔ a ≤ x ∧ x ≤ b := by unfold inR; simp
theorem app_in {op W k w a b c : Int} (h1 : 1 ≤ W ∧ W ≤ 8) (h2 : 1 ≤ w ∧ w ≤ 8) (ha : 0 ≤ a ∧ a ≤ 255) (hb : 0 ≤ b ∧ b ≤ 255) (hc : 0 ≤ c ∧ c ≤ 255) : applyL op W k w a b c = opL op W k w a b c := by
  unfold applyL
  rw [in_iff.2 h1, in_iff.2 h2, in_iff.2 ha, in_iff.2 hb, in_iff.2 hc]
  rfl
theorem wok_div {m a b : Int} (ha : wok m a = true) (hb : wok m b = true) : wok m (vDiv m a b) = true := by
  unfold vDiv
  rw [ha, hb]
  obtain ⟨h1, h2, h3, h4⟩ := wok_iff.1 ha
  have h5 := wok_iff.1 hb
  simp only [Bool.and_self, if_true]
  have hp := p2_pos m.toNat
  split
  · exact wok_iff.2 ⟨h1, h2, by omega, by omega⟩
  · have := Int.ediv_nonneg h3 h5.2.2.1
    have := Int.ediv_le_self b h3
    exact wok_iff.2 ⟨h1, h2, by omega, by omega⟩
theorem wok_rem {m a b : Int} (ha : wok m a = true) (hb : wok m b = true) : wok m (vRem m a b) = true := by
  unfold vRem
  rw [ha, hb]
  obtain ⟨h1, h2, h3, h4⟩ := wok_iff.1 ha
  have h5 := wok_iff.1 hb
  simp only [Bool.and_self, if_true]
  split
  · exact ha
  · rename_i hz
    have := Int.emod_nonneg a hz
    have := Int.emod_lt_of_pos a (show 0 < b by omega)
    exact wok_iff.2 ⟨h1, h2, by omega, by omega⟩
theorem wok_shl {m a b : Int} (ha : wok m a = true) (hb : wok m b = true) : wok m (vShl m a b) = true := by
  unfold vShl
  rw [ha, hb]
  obtain ⟨h1, h2, h3, h4⟩ := wok_iff.1 ha
  simp only [Bool.and_self, if_true]
  split
  · exact wok_zero h1 h2
  · exact wok_mod _ h1 h2
theorem wok_shr {m a b : Int} (ha : wok m a = true) (hb : wok m b = true) : wok m (vShr m a b) = true := by
  unfold vShr
  rw [ha, hb]
  obtain ⟨h1, h2, h3, h4⟩ := wok_iff.1 ha
  simp only [Bool.and_self, if_true]
  split
  · exact wok_zero h1 h2
  · have hp := p2_pos b.toNat
    have := Int.ediv_nonneg h3 (show 0 ≤ p2 b.toNat by omega)
    have := Int.ediv_le_self (p2 b.toNat) h3
    exact wok_iff.2 ⟨h1, h2, by omega, by omega⟩
theorem wok_slice {w a k n : Int} (h1 : 1 ≤ n) (h2 : n ≤ 8) : wok n (vSlice w a k n) = true := by
  unfold vSlice
  split
  · exact wok_mod _ h1 h2
  · exact wok_zero h1 h2
theorem wok_bit (p : Prop) [Decidable p] : wok 1 (if p then 1 else 0) = true := by
  split <;> rfl
theorem p2_nat (w : Int) : p2 w.toNat = ((2 ^ w.toNat : Nat) : Int) := by unfold p2; simp
theorem wok_nat {w a : Int} (h : wok w a = true) : a.toNat < 2 ^ w.toNat := by
  obtain ⟨h1, h2, h3, h4⟩ := wok_iff.1 h
  rw [p2_nat] at h4
  omega
theorem wok_of_nat {w : Int} {n : Nat} (h1 : 1 ≤ w) (h2 : w ≤ 8) (h : n < 2 ^ w.toNat) : wok w (n : Int) = true := wok_iff.2 ⟨h1, h2, by omega, by rw [p2_nat]; omega⟩
theorem wok_and {w a b : Int} (ha : wok w a = true) (hb : wok w b = true) : wok w (nAnd a b) = true := by
  obtain ⟨h1, h2, _, _⟩ := wok_iff.1 ha
  exact wok_of_nat h1 h2 (Nat.and_lt_two_pow _ (wok_nat hb))
theorem wok_or {w a b : Int} (ha : wok w a = true) (hb : wok w b = true) : wok w (nOr a b) = true := by
  obtain ⟨h1, h2, _, _⟩ := wok_iff.1 ha
  exact wok_of_nat h1 h2 (Nat.or_lt_two_pow (wok_nat ha) (wok_nat hb))
theorem wok_xor {w a b : Int} (ha : wok w a = true) (hb : wok w b = true) : wok w (nXor a b) = true := by
  obtain ⟨h1, h2, _, _⟩ := wok_iff.1 ha
  exact wok_of_nat h1 h2 (Nat.xor_lt_two_pow (wok_nat ha) (wok_nat hb))
theorem wok_join {W x y a b : Int} (h8 : W ≤ 8) (hw : x + y = W) (ha : wok x a = true) (hb : wok y b = true) : wok W (a * p2 (W - x).toNat + b) = true := by
  obtain ⟨a1, a2, a3, a4⟩ := wok_iff.1 ha
  obtain ⟨b1, b2, b3, b4⟩ := wok_iff.1 hb
  have e : W - x = y := by omega
  rw [e]
  have hp : p2 W.toNat = p2 x.toNat * p2 y.toNat := by
    unfold p2
    rw [← Int.pow_add]
    congr 1; omega
  have hy := p2_pos y.toNat
  refine wok_iff.2 ⟨by omega, h8, ?_, ?_⟩
  · have := Int.mul_nonneg a3 (show 0 ≤ p2 y.toNat by omega)
    omega
  · rw [hp]
    have h1 : (a + 1) * p2 y.toNat ≤ p2 x.toNat * p2 y.toNat := Int.mul_le_mul_of_nonneg_right (by omega) (by omega)
    rw [Int.add_mul] at h1
    omega

/-- Each variable that is wanted has a word of each width with which it is. -/
def Fits (r : List Nat) (e : List Int) : Prop := ∀ v, v < 8 → ∀ j, 1 ≤ j → j ≤ 8 → (r.getD v 0).testBit j = true → wok (j : Int) (e.getD v 0) = true
theorem fit_iff {r : List Nat} {e : List Int} : fitR r e = true ↔ Fits r e := by
  unfold fitR Fits
  simp only [List.all_eq_true, List.mem_range, Bool.or_eq_true, Bool.not_eq_true']
  constructor
  · intro h v hv j h1 h8 hb
    rcases h v hv (j - 1) (by omega) with e1 | e1
    · rw [show j - 1 + 1 = j by omega, hb] at e1; cases e1
    · have e2 : ((j - 1 : Nat) : Int) + 1 = (j : Int) := by omega
      rw [e2] at e1
      exact e1
  · intro h v hv j hj
    cases hb : (r.getD v 0).testBit (j + 1)
    · exact .inl rfl
    · have := h v hv (j + 1) (by omega) (by omega) hb
      refine .inr ?_
      have e2 : ((j + 1 : Nat) : Int) = (j : Int) + 1 := by omega
      rw [e2] at this
      exact this
theorem or_at (r s : List Nat) {v : Nat} (hv : v < 8) : (orL r s).getD v 0 = (r.getD v 0 ||| s.getD v 0) := by
  unfold orL
  rw [List.getD_eq_getElem?_getD, List.getElem?_map, List.getElem?_range hv]
  rfl
theorem Fits.left {r s : List Nat} {e : List Int} (h : Fits (orL r s) e) : Fits r e := fun v hv j h1 h8 hb => h v hv j h1 h8 (by rw [or_at r s hv, Nat.testBit_or, hb]; rfl)
theorem Fits.right {r s : List Nat} {e : List Int} (h : Fits (orL r s) e) : Fits s e := fun v hv j h1 h8 hb => h v hv j h1 h8 (by rw [or_at r s hv, Nat.testBit_or, hb, Bool.or_true])
theorem need_len : ∀ (x : Tr) (r : List Nat), needT x = some r → r.length = 8 := by
  intro x
  induction x with
  | leaf op w k => intro r h; simp only [needT] at h; cases h; simp
  | one op w k b x ih =>
    intro r h
    simp only [needT] at h
    obtain ⟨s, h1, h⟩ := Option.bind_eq_some_iff.1 h
    split at h
    · split at h
      · cases h
      · cases h; rw [List.length_set]; exact ih s h1
    · cases h; exact ih _ h1
  | two op w x y ih1 ih2 =>
    intro r h
    simp only [needT] at h
    obtain ⟨s, h1, h⟩ := Option.bind_eq_some_iff.1 h
    obtain ⟨u, h2, h⟩ := Option.bind_eq_some_iff.1 h
    cases h
    simp [orL]
  | three op w x y z ih1 ih2 ih3 =>
    intro r h
    simp only [needT] at h
    obtain ⟨s, h1, h⟩ := Option.bind_eq_some_iff.1 h
    obtain ⟨u, h2, h⟩ := Option.bind_eq_some_iff.1 h
    obtain ⟨u', h3, h⟩ := Option.bind_eq_some_iff.1 h
    cases h
    simp [orL]
/-- Below a quantifier its variable may have each of its values. -/
theorem Fits.below {s : List Nat} {e : List Int} {k b : Int} {i : Nat} (hs : s.length = 8) (he : e.length = 8) (hk : 0 ≤ k ∧ k ≤ 7) (hb : 1 ≤ b ∧ b ≤ 8) (hi : i < 2 ^ b.toNat) (hq : ¬ (s.getD k.toNat 0 ≠ 0 ∧ s.getD k.toNat 0 ≠ 2 ^ b.toNat)) (h : Fits (s.set k.toNat 0) e) : Fits s (e.set k.toNat (i : Int)) := by
  intro v hv j h1 h8 hbt
  by_cases hvk : v = k.toNat
  · subst hvk
    have hget : (e.set k.toNat (i : Int)).getD k.toNat 0 = (i : Int) := by
      rw [List.getD_eq_getElem?_getD, List.getElem?_set_self (by omega)]; rfl
    rw [hget]
    have hs2 : s.getD k.toNat 0 = 2 ^ b.toNat := by
      apply Classical.byContradiction
      intro hn
      refine hq ⟨fun e0 => ?_, hn⟩
      rw [e0] at hbt
      simp at hbt
    rw [hs2, Nat.testBit_two_pow] at hbt
    have hj : b.toNat = j := of_decide_eq_true hbt
    exact wok_of_nat (by omega) (by omega) (by rw [show ((j : Nat) : Int).toNat = b.toNat by omega]; exact hi)
  · have hget : (e.set k.toNat (i : Int)).getD v 0 = e.getD v 0 := by
      rw [List.getD_eq_getElem?_getD, List.getD_eq_getElem?_getD, List.getElem?_set_ne (fun e => hvk e.symm)]
    rw [hget]
    refine h v hv j h1 h8 ?_
    rw [List.getD_eq_getElem?_getD, List.getElem?_set_ne (fun e => hvk e.symm), ← List.getD_eq_getElem?_getD]
    exact hbt
theorem value_word : ∀ (x : Tr) (r : List Nat) (e : List Int), Rt x → needT x = some r → e.length = 8 → Fits r e → wok x.wid (vT x e) = true := by
  intro x
  induction x with
  | leaf op w k =>
    intro r e hr hn he hf
    obtain ⟨h1, h8, h⟩ := hr
    simp only [needT] at hn
    cases hn
    simp only [vT]
    show wok w _ = true
    rcases h with ⟨rfl, hk⟩ | ⟨rfl, hk0, hk7⟩
    · rw [if_neg (by decide), app_in ⟨h1, h8⟩ (by decide) (by decide) (by decide) (by decide)]
      exact hk
    · rw [if_pos rfl]
      have := hf k.toNat (by omega) w.toNat (by omega) (by omega) (by
        rw [List.getD_eq_getElem?_getD, List.getElem?_map, List.getElem?_range (by omega)]
        simp only [Option.map_some, Option.getD_some]
        rw [if_pos ⟨trivial, by omega⟩, Nat.testBit_two_pow]
        simp)
      rw [show ((w.toNat : Nat) : Int) = w by omega] at this
      exact this
  | one op w k b x ih =>
    intro r e hr hn he hf
    obtain ⟨h1, h8, hx, h⟩ := hr
    have hxw := hx.wid
    simp only [needT] at hn
    obtain ⟨s, h2, hn⟩ := Option.bind_eq_some_iff.1 hn
    simp only [vT]
    show wok w _ = true
    rcases h with ⟨rfl, hw⟩ | ⟨rfl, hk⟩ | ⟨ho, hx1, rfl, hk0, hk7, hb1, hb8⟩
    · rw [if_neg (by decide), if_neg (by decide)]
      rw [show quant 2 = false from rfl] at hn
      simp only [Bool.false_eq_true, if_false] at hn
      have hsr : s = r := Option.some.inj hn
      subst hsr
      have hv := ih s e hx h2 he hf
      rw [app_in ⟨h1, h8⟩ hxw (wok_lt hv) (by decide) (by decide)]
      rw [hw] at hv
      exact wok_flip hv
    · rw [if_neg (by decide), if_neg (by decide)]
      rw [show quant 17 = false from rfl] at hn
      simp only [Bool.false_eq_true, if_false] at hn
      have hsr : s = r := Option.some.inj hn
      subst hsr
      have hv := ih s e hx h2 he hf
      rw [app_in ⟨h1, h8⟩ hxw (wok_lt hv) (by decide) (by decide)]
      exact wok_slice h1 h8
    · rcases ho with rfl | rfl
      · rw [if_pos rfl]; exact wok_bit _
      · rw [if_neg (by decide), if_pos rfl]; exact wok_bit _
  | two op w x y ih1 ih2 =>
    intro r e hr hn he hf
    obtain ⟨h1, h8, hx, hy, h⟩ := hr
    have hxw := hx.wid
    simp only [needT] at hn
    obtain ⟨s, h2, hn⟩ := Option.bind_eq_some_iff.1 hn
    obtain ⟨u, h3, hn⟩ := Option.bind_eq_some_iff.1 hn
    cases hn
    have hv := ih1 s e hx h2 he hf.left
    have hu := ih2 u e hy h3 he hf.right
    simp only [vT]
    show wok w _ = true
    rw [app_in ⟨h1, h8⟩ hxw (wok_lt hv) (wok_lt hu) (by decide)]
    rcases h with ⟨ho1, ho2, hwx, hwy⟩ | ⟨ho1, ho2, hxy, rfl⟩ | ⟨rfl, hw⟩
    · rw [hwx] at hv ⊢
      rw [hwy] at hu
      have hc : op = 3 ∨ op = 4 ∨ op = 5 ∨ op = 6 ∨ op = 7 ∨ op = 8 ∨ op = 9 ∨ op = 10 ∨ op = 11 ∨ op = 12 := by omega
      rcases hc with rfl | rfl | rfl | rfl | rfl | rfl | rfl | rfl | rfl | rfl
      · exact wok_and hv hu
      · exact wok_or hv hu
      · exact wok_xor hv hu
      · exact wok_add hv hu
      · exact wok_sub hv hu
      · exact wok_mul hv hu
      · exact wok_div hv hu
      · exact wok_rem hv hu
      · exact wok_shl hv hu
      · exact wok_shr hv hu
    · have hc : op = 13 ∨ op = 14 ∨ op = 15 := by omega
      rcases hc with rfl | rfl | rfl
      · exact wok_bit _
      · exact wok_bit _
      · exact wok_bit _
    · have hyw := hy.wid
      show wok w (if w < x.wid then vT y e else vT x e * p2 (w - x.wid).toNat + vT y e) = true
      rw [if_neg (by omega)]
      exact wok_join h8 hw hv hu
  | three op w x y z ih1 ih2 ih3 =>
    intro r e hr hn he hf
    obtain ⟨h1, h8, hx, hy, hz, rfl, hx1, hyw, hzw⟩ := hr
    simp only [needT] at hn
    obtain ⟨s, h2, hn⟩ := Option.bind_eq_some_iff.1 hn
    obtain ⟨u, h3, hn⟩ := Option.bind_eq_some_iff.1 hn
    obtain ⟨u', h4, hn⟩ := Option.bind_eq_some_iff.1 hn
    cases hn
    have hv := ih1 s e hx h2 he hf.left.left
    have hu := ih2 u e hy h3 he hf.left.right
    have ht := ih3 u' e hz h4 he hf.right
    simp only [vT]
    show wok w _ = true
    rw [app_in ⟨h1, h8⟩ hx.wid (wok_lt hv) (wok_lt hu) (wok_lt ht)]
    show wok w (if vT x e = 1 then vT y e else vT z e) = true
    rw [hyw] at hu
    rw [hzw] at ht
    split
    · exact hu
    · exact ht
/-- What a term is worth is a word of its root's width. -/
theorem value_wok {l : List Nd} {e : List Int} {x : Int} (h : valueL l e = some x) : wok (nth l (l.length - 1)).w x = true := by
  unfold valueL at h
  split at h
  · rename_i hc
    simp only [Bool.and_eq_true, decide_eq_true_eq] at hc
    obtain ⟨⟨⟨hT, he⟩, hb⟩, hf⟩ := hc
    cases h
    have hl := term_len hT
    have hr := rt_all (down_of hT) (fun k hk => term_node hT hk) (l.length - 1) (by omega)
    unfold fitT at hf
    cases hn : needT (root l) with
    | none => rw [hn] at hf; cases hf
    | some r =>
      rw [hn] at hf
      have := value_word (root l) r e hr.1 hn he (fit_iff.1 hf)
      unfold root at this ⊢
      rw [hr.2] at this
      exact this
  · cases h

end Go.Proofs.Ytebejleeadofcaa.Vl2
