/- Small texts of mine, one behind the other. -/
import Derived.Test.YtnbenffechplgaaGreatPkVE14
import Derived.Test.YtnbenffechplgaaGreatPkVE0
import Derived.Test.YtnbenffechplgaaGreatPkVE4
/- What a right tree is worth is a word of its width. -/
namespace Go.Proofs.YtnbenffechplgaaGreat.Vl2
open Nd0 Pl1 Pl2 Tm0 Tm1 Tm3 Tm5 Tm8 Tm11 Tm13 Tm14 Tr0 Vl1
set_option linter.unusedVariables false

theorem in_iff {x a b : Int} : inR x a b = true ↔ a ≤ x ∧ x ≤ b := by unfold inR; simp
theorem app_in {op W k w a b c : Int} (h1 : 1 ≤ W ∧ W ≤ 8) (h2 : 1 ≤ w ∧ w ≤ 8) (ha : 0 ≤ a ∧ a ≤ 255) (hb : 0 ≤ b ∧ b ≤ 255) (hc : 0 ≤ c ∧ c ≤ 255) : applyL op W k w a b c = opL op W k w a b c := by
  unfold applyL
  rw [in_iff.2 h1, in_iff.2 h2, in_iff.2 ha, in_iff.2 hb, in_iff.2 hc]
  rfl
theorem wok_div {m a b : Int} (ha : wok m a = true) (hb : wok m b = true) : wok m (vDiv m a b) = true := by
  unfold vDiv
  rw [ha, hb]
  obtain ⟨h1, h2, h3, h4⟩ := wok_iff.1 ha
  have h5 := wok_iff.1 hb
  simp only [Bool.and_self, if_true]
  have hp := p2_pos m.toNat
  split
  · exact wok_iff.2 ⟨h1, h2, by omega, by omega⟩
  · have := Int.ediv_nonneg h3 h5.2.2.1
    have := Int.ediv_le_self b h3
    exact wok_iff.2 ⟨h1, h2, by omega, by omega⟩
theorem wok_rem {m a b : Int} (ha : wok m a = true) (hb : wok m b = true) : wok m (vRem m a b) = true := by
  unfold vRem
  rw [ha, hb]
  obtain ⟨h1, h2, h3, h4⟩ := wok_iff.1 ha
  have h5 := wok_iff.1 hb
  simp only [Bool.and_self, if_true]
  split
  · exact ha
  · rename_i hz
    have := Int.emod_nonneg a hz
    have := Int.emod_lt_of_pos a (show 0 < b by omega)
    exact wok_iff.2 ⟨h1, h2, by omega, by omega⟩
theorem wok_shl {m a b : Int} (ha : wok m a = true) (hb : wok m b = true) : wok m (vShl m a b) = true := by
  unfold vShl
  rw [ha, hb]
  obtain ⟨h1, h2, h3, h4⟩ := wok_iff.1 ha
  simp only [Bool.and_self, if_true]
  split
  · exact wok_zero h1 h2
  · exact wok_mod _ h1 h2
theorem wok_shr {m a b : Int} (ha : wok m a = true) (hb : wok m b = true) : wok m (vShr m a b) = true := by
  unfold vShr
  rw [ha, hb]
  obtain ⟨h1, h2, h3, h4⟩ := wok_iff.1 ha
  simp only [Bool.and_self, if_true]
  split
  · exact wok_zero h1 h2
  · have hp := p2_pos b.toNat
    have := Int.ediv_nonneg h3 (show 0 ≤ p2 b.toNat by omega)
    have := Int.ediv_le_self (p2 b.toNat) h3
    exact wok_iff.2 ⟨h1, h2, by omega, by omega⟩
theorem wok_slice {w a k n : Int} (h1 : 1 ≤ n) (h2 : n ≤ 8) : wok n (vSlice w a k n) = true := by
  unfold vSlice
  split
  · exact wok_mod _ h1 h2
  · exact wok_zero h1 h2
theorem wok_bit (p : Prop) [Decidable p] : wok 1 (if p then 1 else 0) = true := by
  split <;> rfl
theorem p2_nat (w : Int) : p2 w.toNat = ((2 ^ w.toNat : Nat) : Int) := by unfold p2; simp
theorem wok_nat {w a : Int} (h : wok w a = true) : a.toNat < 2 ^ w.toNat := by
  obtain ⟨h1, h2, h3, h4⟩ := wok_iff.1 h
  rw [p2_nat] at h4
  omega
theorem wok_of_nat {w : Int} {n : Nat} (h1 : 1 ≤ w) (h2 : w ≤ 8) (h : n < 2 ^ w.toNat) : wok w (n : Int) = true := wok_iff.2 ⟨h1, h2, by omega, by rw [p2_nat]; omega⟩
theorem wok_and {w a b : Int} (ha : wok w a = true) (hb : wok w b = true) : wok w (nAnd a b) = true := by
  obtain ⟨h1, h2, _, _⟩ := wok_iff.1 ha
  exact wok_of_nat h1 h2 (Nat.and_lt_two_pow _ (wok_nat hb))
theorem wok_or {w a b : Int} (ha : wok w a = true) (hb : wok w b = true) : wok w (nOr a b) = true := by
  obtain ⟨h1, h2, _, _⟩ := wok_iff.1 ha
  exact wok_of_nat h1 h2 (Nat.or_lt_two_pow (wok_nat ha) (wok_nat hb))
theorem wok_xor {w a b : Int} (ha : wok w a = true) (hb : wok w b = true) : wok w (nXor a b) = true := by
  obtain ⟨h1, h2, _, _⟩ := wok_iff.1 ha
  exact wok_of_nat h1 h2 (Nat.xor_lt_two_pow (wok_nat ha) (wok_nat hb))
theorem wok_join {W x y a b : Int} (h8 : W ≤ 8) (hw : x + y = W) (ha : wok x a = true) (hb : wok y b = true) : wok W (a * p2 (W - x).toNat + b) = true := by
  obtain ⟨a1, a2, a3, a4⟩ := wok_iff.1 ha
  obtain ⟨b1, b2, b3, b4⟩ := wok_iff.1 hb
  have e : W - x = y := by omega
  rw [e]
  have hp : p2 W.toNat = p2 x.toNat * p2 y.toNat := by
    unfold p2
    rw [← Int.pow_add]
    congr 1; omega
  have hy := p2_pos y.toNat
  refine wok_iff.2 ⟨by omega, h8, ?_, ?_⟩
  · have := Int.mul_nonneg a3 (show 0 ≤ p2 y.toNat by omega)
    omega
  · rw [hp]
    have h1 : (a + 1) * p2 y.toNat ≤ p2 x.toNat * p2 y.toNat := Int.mul_le_mul_of_nonneg_right (by omega) (by omega)
    rw [Int.add_mul] at h1
    omega

def Fits (r : List Nat) (e : List Int) : Prop := ∀ v, v < 8 → ∀ j, 1 ≤ j → j ≤ 8 → (r.getD v 0).testBit j = true → wok (j : Int) (e.getD v 0) = true
theorem fit_iff {r : List Nat} {e : List Int} : fitR r e = true ↔ Fits r e := by
  unfold fitR Fits
  simp only [List.all_eq_true, List.mem_range, Bool.or_eq_true, Bool.not_eq_true']
  constructor
  · intro h v hv j h1 h8 hb
    rcases h v hv (j - 1) (by omega) with e1 | e1
    · rw [show j - 1 + 1 = j by omega, hb] at e1; cases e1
    · have e2 : ((j - 1 : Nat) : Int) + 1 = (j : Int) := by omega
      rw [e2] at e1
      exact e1
  · intro h v hv j hj
    cases hb : (r.getD v 0).testBit (j + 1)
    · exact .inl rfl
    · have := h v hv (j + 1) (by omega) (by omega) hb
      refine .inr ?_
      have e2 : ((j + 1 : Nat) : Int) = (j : Int) + 1 := by omega
      rw [e2] at this
      exact this
theorem or_at (r s : List Nat) {v : Nat} (hv : v < 8) : (orL r s).getD v 0 = (r.getD v 0 ||| s.getD v 0) := by
  unfold orL
  rw [List.getD_eq_getElem?_getD, List.getElem?_map, List.getElem?_range hv]
  rfl
theorem Fits.left {r s : List Nat} {e : List Int} (h : Fits (orL r s) e) : Fits r e := fun v hv j h1 h8 hb => h v hv j h1 h8 (by rw [or_at r s hv, Nat.testBit_or, hb]; rfl)
theorem Fits.right {r s : List Nat} {e : List Int} (h : Fits (orL r s) e) : Fits s e := fun v hv j h1 h8 hb => h v hv j h1 h8 (by rw [or_at r s hv, Nat.testBit_or, hb, Bool.or_true])
theorem need_len : ∀ (x : Tr) (r : List Nat), needT x = some r → r.length = 8 := by
  intro x
  induction x with
  | leaf op w k => intro r h; simp only [needT] at h; cases h; simp
  | one op w k b x ih =>
    intro r h
    simp only [needT] at h
    obtain ⟨s, h1, h⟩ := Option.bind_eq_some_iff.1 h
    split at h
    · split at h
      · cases h
      · cases h; rw [List.length_set]; exact ih s h1
    · cases h; exact ih _ h1
  | two op w x y ih1 ih2 =>
    intro r h
    simp only [needT] at h
    obtain ⟨s, h1, h⟩ := Option.bind_eq_some_iff.1 h
    obtain ⟨u, h2, h⟩ := Option.bind_eq_some_iff.1 h
    cases h
    simp [orL]
  | three op w x y z ih1 ih2 ih3 =>
    intro r h
    simp only [needT] at h
    obtain ⟨s, h1, h⟩ := Option.bind_eq_some_iff.1 h
    obtain ⟨u, h2, h⟩ := Option.bind_eq_some_iff.1 h
    obtain ⟨u', h3, h⟩ := Option.bind_eq_some_iff.1 h
    cases h
    simp [orL]
theorem Fits.below {s : List Nat} {e : List Int} {k b : Int} {i : Nat} (hs : s.length = 8) (he : e.length = 8) (hk : 0 ≤ k ∧ k ≤ 7) (hb : 1 ≤ b ∧ b ≤ 8) (hi : i < 2 ^ b.toNat) (hq : ¬ (s.getD k.toNat 0 ≠ 0 ∧ s.getD k.toNat 0 ≠ 2 ^ b.toNat)) (h : Fits (s.set k.toNat 0) e) : Fits s (e.set k.toNat (i : Int)) := by
  intro v hv j h1 h8 hbt
  by_cases hvk : v = k.toNat
  · subst hvk
    have hget : (e.set k.toNat (i : Int)).getD k.toNat 0 = (i : Int) := by
      rw [List.getD_eq_getElem?_getD, List.getElem?_set_self (by omega)]; rfl
    rw [hget]
    have hs2 : s.getD k.toNat 0 = 2 ^ b.toNat := by
      apply Classical.byContradiction
      intro hn
      refine hq ⟨fun e0 => ?_, hn⟩
      rw [e0] at hbt
      simp at hbt
    rw [hs2, Nat.testBit_two_pow] at hbt
    have hj : b.toNat = j := of_decide_eq_true hbt
    exact wok_of_nat (by omega) (by omega) (by rw [show ((j : Nat) : Int).toNat = b.toNat by omega]; exact hi)
  · have hget : (e.set k.toNat (i : Int)).getD v 0 = e.getD v 0 := by
      rw [List.getD_eq_getElem?_getD, List.getD_eq_getElem?_getD, List.getElem?_set_ne (fun e => hvk e.symm)]
    rw [hget]
    refine h v hv j h1 h8 ?_
    rw [List.getD_eq_getElem?_getD, List.getElem?_set_ne (fun e => hvk e.symm), ← List.getD_eq_getElem?_getD]
    exact hbt
theorem value_word : ∀ (x : Tr) (r : List Nat) (e : List Int), Rt x → needT x = some r → e.length = 8 → Fits r e → wok x.wid (vT x e) = true := by
  intro x
  induction x with
  | leaf op w k =>
    intro r e hr hn he hf
    obtain ⟨h1, h8, h⟩ := hr
    simp only [needT] at hn
    cases hn
    simp only [vT]
    show wok w _ = true
    rcases h with ⟨rfl, hk⟩ | ⟨rfl, hk0, hk7⟩
    · rw [if_neg (by decide), app_in ⟨h1, h8⟩ (by decide) (by decide) (by decide) (by decide)]
      exact hk
    · rw [if_pos rfl]
      have := hf k.toNat (by omega) w.toNat (by omega) (by omega) (by
        rw [List.getD_eq_getElem?_getD, List.getElem?_map, List.getElem?_range (by omega)]
        simp only [Option.map_some, Option.getD_some]
        rw [if_pos ⟨trivial, by omega⟩, Nat.testBit_two_pow]
        simp)
      rw [show ((w.toNat : Nat) : Int) = w by omega] at this
      exact this
  | one op w k b x ih =>
    intro r e hr hn he hf
    obtain ⟨h1, h8, hx, h⟩ := hr
    have hxw := hx.wid
    simp only [needT] at hn
    obtain ⟨s, h2, hn⟩ := Option.bind_eq_some_iff.1 hn
    simp only [vT]
    show wok w _ = true
    rcases h with ⟨rfl, hw⟩ | ⟨rfl, hk⟩ | ⟨ho, hx1, rfl, hk0, hk7, hb1, hb8⟩
    · rw [if_neg (by decide), if_neg (by decide)]
      rw [show quant 2 = false from rfl] at hn
      simp only [Bool.false_eq_true, if_false] at hn
      have hsr : s = r := Option.some.inj hn
      subst hsr
      have hv := ih s e hx h2 he hf
      rw [app_in ⟨h1, h8⟩ hxw (wok_lt hv) (by decide) (by decide)]
      rw [hw] at hv
      exact wok_flip hv
    · rw [if_neg (by decide), if_neg (by decide)]
      rw [show quant 17 = false from rfl] at hn
      simp only [Bool.false_eq_true, if_false] at hn
      have hsr : s = r := Option.some.inj hn
      subst hsr
      have hv := ih s e hx h2 he hf
      rw [app_in ⟨h1, h8⟩ hxw (wok_lt hv) (by decide) (by decide)]
      exact wok_slice h1 h8
    · rcases ho with rfl | rfl
      · rw [if_pos rfl]; exact wok_bit _
      · rw [if_neg (by decide), if_pos rfl]; exact wok_bit _
  | two op w x y ih1 ih2 =>
    intro r e hr hn he hf
    obtain ⟨h1, h8, hx, hy, h⟩ := hr
    have hxw := hx.wid
    simp only [needT] at hn
    obtain ⟨s, h2, hn⟩ := Option.bind_eq_some_iff.1 hn
    obtain ⟨u, h3, hn⟩ := Option.bind_eq_some_iff.1 hn
    cases hn
    have hv := ih1 s e hx h2 he hf.left
    have hu := ih2 u e hy h3 he hf.right
    simp only [vT]
    show wok w _ = true
    rw [app_in ⟨h1, h8⟩ hxw (wok_lt hv) (wok_lt hu) (by decide)]
    rcases h with ⟨ho1, ho2, hwx, hwy⟩ | ⟨ho1, ho2, hxy, rfl⟩ | ⟨rfl, hw⟩
    · rw [hwx] at hv ⊢
      rw [hwy] at hu
      have hc : op = 3 ∨ op = 4 ∨ op = 5 ∨ op = 6 ∨ op = 7 ∨ op = 8 ∨ op = 9 ∨ op = 10 ∨ op = 11 ∨ op = 12 := by omega
      rcases hc with rfl | rfl | rfl | rfl | rfl | rfl | rfl | rfl | rfl | rfl
      · exact wok_and hv hu
      · exact wok_or hv hu
      · exact wok_xor hv hu
      · exact wok_add hv hu
      · exact wok_sub hv hu
      · exact wok_mul hv hu
      · exact wok_div hv hu
      · exact wok_rem hv hu
      · exact wok_shl hv hu
      · exact wok_shr hv hu
    · have hc : op = 13 ∨ op = 14 ∨ op = 15 := by omega
      rcases hc with rfl | rfl | rfl
      · exact wok_bit _
      · exact wok_bit _
      · exact wok_bit _
    · have hyw := hy.wid
      show wok w (if w < x.wid then vT y e else vT x e * p2 (w - x.wid).toNat + vT y e) = true
      rw [if_neg (by omega)]
      exact wok_join h8 hw hv hu
  | three op w x y z ih1 ih2 ih3 =>
    intro r e hr hn he hf
    obtain ⟨h1, h8, hx, hy, hz, rfl, hx1, hyw, hzw⟩ := hr
    simp only [needT] at hn
    obtain ⟨s, h2, hn⟩ := Option.bind_eq_some_iff.1 hn
    obtain ⟨u, h3, hn⟩ := Option.bind_eq_some_iff.1 hn
    obtain ⟨u', h4, hn⟩ := Option.bind_eq_some_iff.1 hn
    cases hn
    have hv := ih1 s e hx h2 he hf.left.left
    have hu := ih2 u e hy h3 he hf.left.right
    have ht := ih3 u' e hz h4 he hf.right
    simp only [vT]
    show wok w _ = true
    rw [app_in ⟨h1, h8⟩ hx.wid (wok_lt hv) (wok_lt hu) (wok_lt ht)]
    show wok w (if vT x e = 1 then vT y e else vT z e) = true
    rw [hyw] at hu
    rw [hzw] at ht
    split
    · exact hu
    · exact ht
end Go.Proofs.YtnbenffechplgaaGreat.Vl2

/- What a node of a term is worth, out of what its parts are worth: as plain data. -/
namespace Go.Proofs.YtnbenffechplgaaGreat.Vm0
open Nd0 Pl1 Pl2 Tm0 Tm1 Tm3 Tm5 Tm6 Tm8 Tm11 Tm13 Tm14 Tr0 Vl1 Vl2
set_option linter.unusedVariables false

theorem applyL_k {op : Int} (h : (3 ≤ op ∧ op ≤ 16) ∨ op = 18) (W k k' w a b c : Int) : applyL op W k w a b c = applyL op W k' w a b c := by
  have h0 : ¬ op = 0 := by omega
  have h17 : ¬ op = 17 := by omega
  unfold applyL opL
  simp only [h0, h17, if_false]
def pvs (l : List Nd) (e : List Int) (n : Nd) : List Int := (parts n).map fun p => vT (tr l p.toNat) e
def pw (l : List Nd) (n : Nd) : Int := match parts n with
  | [] => 1
  | p :: _ => (nth l p.toNat).w
section
variable {l : List Nd} (hD : Down l) (hN : ∀ k, k < l.length → nodeOk l k = true) {k : Nat} (hk : k < l.length) (e : List Int)
include hD hN hk
theorem vT_other (h1 : ¬ (nth l k).op = 1) (hq : quant (nth l k).op = false) :
    vT (tr l k) e = applyL (nth l k).op (nth l k).w (nth l k).k (pw l (nth l k)) ((pvs l e (nth l k)).getD 0 0) ((pvs l e (nth l k)).getD 1 0) ((pvs l e (nth l k)).getD 2 0) := by
  rw [tr_at hD hk]
  have hd := hD k hk
  have hp : ∀ p ∈ parts (nth l k), (tr l p.toNat).wid = (nth l p.toNat).w := fun p h => (rt_all hD hN p.toNat (by have := hd p h; omega)).2
  generalize nth l k = n at h1 hq hp hd
  have hq2 : ¬ n.op = 19 ∧ ¬ n.op = 20 := by simpa [quant] using hq
  by_cases g1 : n.op = 2 ∨ n.op = 17 ∨ n.op = 19 ∨ n.op = 20
  · rw [mk_one g1]
    unfold pvs pw
    rw [parts_one g1] at hp ⊢
    simp only [vT, List.map_cons, List.map_nil]
    rw [if_neg hq2.1, if_neg hq2.2, hp n.a (by simp)]
    rfl
  · by_cases g2 : 3 ≤ n.op ∧ n.op ≤ 16
    · rw [mk_two g2]
      unfold pvs pw
      rw [parts_two g2] at hp ⊢
      simp only [vT, List.map_cons, List.map_nil]
      rw [hp n.a (by simp), applyL_k (.inl g2) _ 0 n.k]
      rfl
    · by_cases g3 : n.op = 18
      · rw [mk_three g3]
        unfold pvs pw
        rw [parts_three g3] at hp ⊢
        simp only [vT, List.map_cons, List.map_nil]
        rw [hp n.a (by simp), applyL_k (.inr g3) _ 0 n.k]
        rfl
      · rw [mk_leaf g1 g2 g3]
        unfold pvs pw
        rw [parts_none g1 g2 g3]
        simp only [vT]
        rw [if_neg h1]
        rfl
end
theorem vT_var {l : List Nd} (hD : Down l) {k : Nat} (hk : k < l.length) (e : List Int) (h1 : (nth l k).op = 1) : vT (tr l k) e = wd e (nth l k).k := by
  rw [tr_at hD hk, mk_leaf (by omega) (by omega) (by omega)]
  simp only [vT]
  rw [if_pos h1]
  rfl
def allN (f : Nat → Int) (m : Nat) : Int := if (List.range m).all (fun i => f i == 1) then 1 else 0
def anyN (f : Nat → Int) (m : Nat) : Int := if (List.range m).any (fun i => f i == 1) then 1 else 0
theorem allN_yes {f : Nat → Int} {m : Nat} (h : f m = 1) : allN f (m + 1) = allN f m := by
  unfold allN; rw [List.range_succ, List.all_append]; simp [h]
theorem allN_no {f : Nat → Int} {m : Nat} (h : ¬ f m = 1) : allN f (m + 1) = 0 := by
  unfold allN; rw [List.range_succ, List.all_append]; simp [h]
theorem anyN_yes {f : Nat → Int} {m : Nat} (h : f m = 1) : anyN f (m + 1) = 1 := by
  unfold anyN; rw [List.range_succ, List.any_append]; simp [h]
theorem anyN_no {f : Nat → Int} {m : Nat} (h : ¬ f m = 1) : anyN f (m + 1) = anyN f m := by
  unfold anyN; rw [List.range_succ, List.any_append]; simp [h]
theorem anyN_bit (f : Nat → Int) (m : Nat) : anyN f m = 0 ∨ anyN f m = 1 := by unfold anyN; split <;> simp
theorem anyN_one {f : Nat → Int} {m : Nat} : anyN f m = 1 ↔ ∃ i, i < m ∧ f i = 1 := by
  unfold anyN
  constructor
  · intro h
    split at h
    · rename_i h2
      obtain ⟨i, h3, h4⟩ := List.any_eq_true.1 h2
      exact ⟨i, List.mem_range.1 h3, by simpa using h4⟩
    · cases h
  · rintro ⟨i, h1, h2⟩
    rw [if_pos (List.any_eq_true.2 ⟨i, List.mem_range.2 h1, by simpa using h2⟩)]
theorem allN_one {f : Nat → Int} {m : Nat} : allN f m = 1 ↔ ∀ i, i < m → f i = 1 := by
  unfold allN
  constructor
  · intro h i hi
    split at h
    · rename_i h2
      simpa using List.all_eq_true.1 h2 i (List.mem_range.2 hi)
    · cases h
  · intro h
    rw [if_pos (List.all_eq_true.2 fun i hi => by simpa using h i (List.mem_range.1 hi))]
theorem allN_bit (f : Nat → Int) (m : Nat) : allN f m = 0 ∨ allN f m = 1 := by unfold allN; split <;> simp
theorem vT_quant {l : List Nd} (hD : Down l) {k : Nat} (hk : k < l.length) (e : List Int) (hq : quant (nth l k).op = true) :
    vT (tr l k) e = if (nth l k).op = 19 then allN (fun i => vT (tr l (nth l k).a.toNat) (e.set (nth l k).k.toNat (i : Int))) (2 ^ (nth l k).b.toNat) else anyN (fun i => vT (tr l (nth l k).a.toNat) (e.set (nth l k).k.toNat (i : Int))) (2 ^ (nth l k).b.toNat) := by
  have hq2 : (nth l k).op = 19 ∨ (nth l k).op = 20 := by simpa [quant] using hq
  rw [tr_at hD hk, mk_one (by omega)]
  simp only [vT]
  rcases hq2 with h | h
  · rw [if_pos h, if_pos h]; rfl
  · have h19 : ¬ (nth l k).op = 19 := by omega
    rw [if_neg h19, if_pos h, if_neg h19]; rfl
theorem set_self (e : List Int) {i : Nat} (h : i < e.length) : e.set i (wd e (i : Int)) = e := by
  have : wd e (i : Int) = e[i] := (wd_get h).symm
  rw [this]; exact List.set_getElem_self h

theorem node_k {l : List Nd} (hD : Down l) (hN : ∀ k, k < l.length → nodeOk l k = true) {k : Nat} (hk : k < l.length) : 0 ≤ (nth l k).k ∧ (nth l k).k ≤ 255 := by
  have hok := hN k hk
  have hd := hD k hk
  simp only [nodeOk, Bool.and_eq_true] at hok
  have hs := hok.2
  have hw : ∀ p ∈ parts (nth l k), width l p ≤ 8 := fun p hp => by
    have h1 := hd p hp
    exact (node_width (hN p.toNat (by omega))).2
  have hw1 := of_decide_eq_true hok.1.2
  generalize nth l k = n at hs hw hw1
  unfold shapeOk at hs
  by_cases h0 : n.op = 0
  · rw [if_pos h0] at hs
    simp only [Bool.and_eq_true] at hs
    have := wok_iff.1 hs.1
    have h2 := p2_mono (show n.w.toNat ≤ 8 by omega)
    have h3 : p2 8 = 256 := rfl
    omega
  rw [if_neg h0] at hs
  by_cases h1 : n.op = 1
  · rw [if_pos h1] at hs
    have := of_decide_eq_true hs
    omega
  rw [if_neg h1] at hs
  by_cases h2 : n.op = 2
  · rw [if_pos h2] at hs
    have := of_decide_eq_true hs
    omega
  rw [if_neg h2] at hs
  by_cases h3 : 3 ≤ n.op ∧ n.op ≤ 12
  · rw [if_pos h3] at hs
    have := of_decide_eq_true hs
    omega
  rw [if_neg h3] at hs
  by_cases h4 : 13 ≤ n.op ∧ n.op ≤ 15
  · rw [if_pos h4] at hs
    have := of_decide_eq_true hs
    omega
  rw [if_neg h4] at hs
  by_cases h5 : n.op = 16
  · rw [if_pos h5] at hs
    have := of_decide_eq_true hs
    omega
  rw [if_neg h5] at hs
  by_cases h6 : n.op = 17
  · rw [if_pos h6] at hs
    have := of_decide_eq_true hs
    rw [parts_one (.inr (.inl h6))] at hw this
    have h8 := hw n.a (by simp)
    simp only [List.map_cons, List.map_nil, List.getD_cons_zero] at this
    omega
  rw [if_neg h6] at hs
  by_cases h7 : n.op = 18
  · rw [if_pos h7] at hs
    have := of_decide_eq_true hs
    omega
  rw [if_neg h7] at hs
  by_cases h8 : n.op = 19 ∨ n.op = 20
  · rw [if_pos h8] at hs
    have := of_decide_eq_true hs
    omega
  rw [if_neg h8] at hs
  cases hs
theorem wf_small {k : Int} (h : 0 ≤ k ∧ k ≤ 255) : (Go.Lit.int .i64 k).wf = true := by
  simp [Go.Lit.wf, Go.IntKind.min, Go.IntKind.max, Go.IntKind.signed, Go.IntKind.bits]; omega

end Go.Proofs.YtnbenffechplgaaGreat.Vm0

/- What is kept, past blocks that were made since. -/
namespace Go.Proofs.YtnbenffechplgaaGreat.Kp1
open Go.RowKit
open Nd0 Rw0 Rw1 Tm6
theorem Kept.past {S T : Nat → Prop} {u v w : World} (h : Kept S u v) (k : Kept T v w) (hT : ∀ b, T b → S b ∨ u.heap.size ≤ b) : Kept S u w :=
  ⟨k.os.trans h.os, k.tape.trans h.tape, k.output.trans h.output, Nat.le_trans h.size k.size, fun i hi hb => (k.block i (Nat.lt_of_lt_of_le hi h.size) (fun t => by
    rcases hT i t with e | e
    · exact hb e
    · omega)).trans (h.block i hi hb)⟩
def Env (w : World) (g : Nat) (e : List Int) : Prop := Row w g 8 (fun i => .int .i64 (wd e (i : Int)))
theorem Env.kept {w w' : World} {g : Nat} {e : List Int} (h : Env w g e) {S : Nat → Prop} (k : Kept S w w') (hs : ¬ S g) : Env w' g e := Row.kept h k hs
theorem Env.lt {w : World} {g : Nat} {e : List Int} (h : Env w g e) : g < w.heap.size := Row.lt h (by omega)
theorem Env.set {w : World} {g : Nat} {e : List Int} (h : Env w g e) (he : e.length = 8) {p : Nat} (hp : p < 8) (x : Int) : Env (w.setCell ⟨g, p, none⟩ (.int .i64 x)) g (e.set p x) := row_set_int h he hp x
theorem Env.at {w : World} {g : Nat} {e : List Int} (h : Env w g e) {k : Int} (h0 : 0 ≤ k) (h7 : k ≤ 7) : w.cell? ⟨g, k.toNat, none⟩ = some (.int .i64 (wd e k)) ∧ w.frozen? ⟨g, k.toNat, none⟩ = false := by
  have := h k.toNat (by omega)
  dsimp only at this
  rw [Int.toNat_of_nonneg h0] at this
  exact this
end Go.Proofs.YtnbenffechplgaaGreat.Kp1

/- Bits of small numbers. -/
namespace Go.Proofs.YtnbenffechplgaaGreat.Bt0
open Go.RowKit
open Pl1 Vl1 Vl2
set_option linter.unusedVariables false

theorem nat8 {a : Int} (h : 0 ≤ a ∧ a ≤ 255) : ∃ m : Nat, a = (m : Int) ∧ m < 2 ^ 8 := ⟨a.toNat, by omega, by omega⟩
theorem wrap8 {m : Nat} (h : m < 2 ^ 8) : IntKind.i64.wrap (m : Int) = (m : Int) := by rw [IntKind.wrap_i64]; omega
theorem mod64 {m : Nat} (h : m < 2 ^ 8) : m % 2 ^ 64 = m := Nat.mod_eq_of_lt (by omega)
theorem band {a b : Int} (ha : 0 ≤ a ∧ a ≤ 255) (hb : 0 ≤ b ∧ b ≤ 255) : bits .and .i64 a b = nAnd a b := by
  obtain ⟨m, rfl, hm⟩ := nat8 ha
  obtain ⟨n, rfl, hn⟩ := nat8 hb
  have e : bits .and .i64 (m : Int) (n : Int) = IntKind.i64.wrap ((BitVec.ofInt 64 (m : Int) &&& BitVec.ofInt 64 (n : Int)).toNat : Int) := rfl
  rw [e, BitVec.toNat_and, BitVec.ofInt_natCast, BitVec.ofInt_natCast, BitVec.toNat_ofNat, BitVec.toNat_ofNat, mod64 hm, mod64 hn, wrap8 (Nat.and_lt_two_pow _ hn)]
  rfl
theorem bor {a b : Int} (ha : 0 ≤ a ∧ a ≤ 255) (hb : 0 ≤ b ∧ b ≤ 255) : bits .or .i64 a b = nOr a b := by
  obtain ⟨m, rfl, hm⟩ := nat8 ha
  obtain ⟨n, rfl, hn⟩ := nat8 hb
  have e : bits .or .i64 (m : Int) (n : Int) = IntKind.i64.wrap ((BitVec.ofInt 64 (m : Int) ||| BitVec.ofInt 64 (n : Int)).toNat : Int) := rfl
  rw [e, BitVec.toNat_or, BitVec.ofInt_natCast, BitVec.ofInt_natCast, BitVec.toNat_ofNat, BitVec.toNat_ofNat, mod64 hm, mod64 hn, wrap8 (Nat.or_lt_two_pow hm hn)]
  rfl
theorem bxor {a b : Int} (ha : 0 ≤ a ∧ a ≤ 255) (hb : 0 ≤ b ∧ b ≤ 255) : bits .xor .i64 a b = nXor a b := by
  obtain ⟨m, rfl, hm⟩ := nat8 ha
  obtain ⟨n, rfl, hn⟩ := nat8 hb
  have e : bits .xor .i64 (m : Int) (n : Int) = IntKind.i64.wrap ((BitVec.ofInt 64 (m : Int) ^^^ BitVec.ofInt 64 (n : Int)).toNat : Int) := rfl
  rw [e, BitVec.toNat_xor, BitVec.ofInt_natCast, BitVec.ofInt_natCast, BitVec.toNat_ofNat, BitVec.toNat_ofNat, mod64 hm, mod64 hn, wrap8 (Nat.xor_lt_two_pow hm hn)]
  rfl
theorem bor16 {m n : Nat} (hm : m < 2 ^ 9) (hn : n < 2 ^ 9) : bits .or .i64 (m : Int) (n : Int) = ((m ||| n : Nat) : Int) := by
  have e : bits .or .i64 (m : Int) (n : Int) = IntKind.i64.wrap ((BitVec.ofInt 64 (m : Int) ||| BitVec.ofInt 64 (n : Int)).toNat : Int) := rfl
  have h := Nat.or_lt_two_pow hm hn
  rw [e, BitVec.toNat_or, BitVec.ofInt_natCast, BitVec.ofInt_natCast, BitVec.toNat_ofNat, BitVec.toNat_ofNat, Nat.mod_eq_of_lt (by omega), Nat.mod_eq_of_lt (by omega), IntKind.wrap_i64]
  omega

end Go.Proofs.YtnbenffechplgaaGreat.Bt0
