/- What is written of a term is read: as its canonical form, of which the same is written. -/
import Derived.Test.YtebejleeadofcaaTx2
import Derived.Test.YtebejleeadofcaaPkXF8
namespace Go.Proofs.Ytebejleeadofcaa.Tx3
open Nd0 Pl1 Tm0 Tm1 Tm3 Tm8 Tx0 Tx1 Tx2

/-- A list of right nodes, no two alike. -/
structure Neat (t : List Nd) : Prop where
  ok : ∀ k, k < t.length → nodeOk t k = true
  one : ∀ j k, j < t.length → k < t.length → nth t j = nth t k → j = k
theorem Neat.down {t : List Nd} (h : Neat t) : Down t := by
  intro i hi p hp
  obtain ⟨j, hj, rfl⟩ := List.getElem_of_mem hp
  exact parts_ok (h.ok i hi) j hj
theorem place_some {t : List Nd} {n : Nd} {j : Nat} (h : placeOf t n = some j) : j < t.length ∧ nth t j = n := by
  have h1 := List.mem_of_find?_eq_some h
  have h2 := List.find?_some h
  simp only [decide_eq_true_eq] at h2
  exact ⟨List.mem_range.1 h1, Nd.ext' h2⟩
theorem place_none {t : List Nd} {n : Nd} (h : placeOf t n = none) {j : Nat} (hj : j < t.length) : nth t j ≠ n := by
  intro e
  have := List.find?_eq_none.1 h j (List.mem_range.2 hj)
  simp [e] at this
theorem place_at {t : List Nd} (hG : Neat t) {j : Nat} (hj : j < t.length) : placeOf t (nth t j) = some j := by
  cases h : placeOf t (nth t j) with
  | none => exact absurd rfl (place_none h hj)
  | some i =>
    obtain ⟨h1, h2⟩ := place_some h
    rw [hG.one i j h1 hj h2]
theorem bd_tails (ts : List (List UInt8)) (ps : List Int) {y : List UInt8} (h : Bd y) : Bd (tails ts ps ++ y) := by
  cases ps with
  | nil => exact h
  | cons p ps => exact bd_blank _
theorem widths_le {l : List Nd} {i : Nat} (hok : ∀ k, k < i → nodeOk l k = true) (h : nodeOk l i = true) : ∀ x ∈ (parts (nth l i)).map (width l), x ≤ 8 := by
  intro x hx
  obtain ⟨p, hp, rfl⟩ := List.mem_map.1 hx
  obtain ⟨j, hj, rfl⟩ := List.getElem_of_mem hp
  have := parts_ok h j hj
  exact (node_width (hok (parts (nth l i))[j].toNat (by omega))).2
/-- The text of a right node is read, where those of its parts are. -/
theorem node_read {l : List Nd} (hN : ∀ k, k < l.length → nodeOk l k = true) (hD : Down l) {i : Nat} (hi : i < l.length) (hX : X l i ≠ []) {t t2 : List Nd} {is : List Nat} {g : Nat}
    (hl : is.length = (parts (nth l i)).length) (hw : is.map (fun (i : Nat) => width t2 (i : Int)) = (parts (nth l i)).map (width l))
    (hp : ∀ p0 p q, Bd q → partsL (rdL g) p0 (parts (nth l i)).length ⟨p, tails (showTo l l.length) (parts (nth l i)) ++ q, t⟩ = .ok (⟨p + (tails (showTo l l.length) (parts (nth l i))).length, q, t2⟩, is))
    (p : Nat) (q : List UInt8) (hq : Bd q ∨ opens (X l i) = true) :
    rdL (g + 1) ⟨p, X l i ++ q, t⟩ = match putL t2 (reparts (nth l i) is) p with
      | .error e => .error e
      | .ok (t3, j) => .ok (⟨p + (X l i).length, q, t3⟩, j) := by
  have hok := hN i hi
  have hXa := X_at hD hi
  have hsh : shapeOk (nth l i) ((parts (nth l i)).map (width l)) = true := by
    simp only [nodeOk, Bool.and_eq_true] at hok; exact hok.2
  have hwd := node_width hok
  have hle := widths_le (fun k hk => hN k (by omega)) hok
  generalize nth l i = n at hl hw hp hXa hsh hwd hle ⊢
  by_cases h0 : n.op = 0
  · have hpn : parts n = [] := parts_none (by omega) (by omega) (by omega)
    rw [hpn] at hl hp
    have his : is = [] := List.eq_nil_of_length_eq_zero hl
    subst his
    have e2 : t = t2 := by
      have := hp 0 0 [] bd_nil
      simp only [List.length_nil, partsL] at this
      injection this with this
      injection this with this _
      injection this
    subst e2
    have hs2 : (wok n.w n.k && decide (n.a = 0 ∧ n.b = 0 ∧ n.c = 0)) = true := by unfold shapeOk at hsh; rw [if_pos h0] at hsh; exact hsh
    simp only [Bool.and_eq_true, decide_eq_true_eq] at hs2
    obtain ⟨hwk, ha, hb, hc⟩ := hs2
    have hk := wok_lt hwk
    have hx : X l i = 35 :: (dec n.w.toNat ++ (58 :: dec n.k.toNat)) := by rw [hXa]; unfold showN; rw [if_pos h0]; simp
    have hne : reparts n [] = ⟨0, ((n.w.toNat : Nat) : Int), ((n.k.toNat : Nat) : Int), 0, 0, 0⟩ := by
      unfold reparts; simp only [List.length_nil]
      apply Nd.ext'; simp only
      refine ⟨h0, by omega, by omega, ?_, ?_, ?_⟩
      · rw [if_neg (by omega)]; exact ha
      · rw [if_neg (by omega)]; exact hb
      · rw [if_neg (by omega)]; exact hc
    rw [hx] at hq ⊢
    have hbd : Bd q := by rcases hq with h | h
                          · exact h
                          · cases h
    have m1 := word_mk p t (two_word 35 rfl n.w.toNat n.k.toNat) hbd
    have ho : opens ((35 :: (dec n.w.toNat ++ (58 :: dec n.k.toNat))) ++ q) = false := rfl
    simp only [rdL]
    rw [ho]
    simp only [Bool.false_eq_true, if_false]
    unfold leafL
    rw [m1.1, m1.2, two_dec 35 (by omega) (by omega), hne]
    all_goals (simp only; rcases putL t ⟨0, ((n.w.toNat : Nat) : Int), ((n.k.toNat : Nat) : Int), 0, 0, 0⟩ p with e | ⟨t3, j⟩ <;> rfl)
  by_cases h1 : n.op = 1
  · have hpn : parts n = [] := parts_none (by omega) (by omega) (by omega)
    rw [hpn] at hl hp
    have his : is = [] := List.eq_nil_of_length_eq_zero hl
    subst his
    have e2 : t = t2 := by
      have := hp 0 0 [] bd_nil
      simp only [List.length_nil, partsL] at this
      injection this with this
      injection this with this _
      injection this
    subst e2
    have hs2 : decide (0 ≤ n.k ∧ n.k ≤ 7 ∧ n.a = 0 ∧ n.b = 0 ∧ n.c = 0) = true := by unfold shapeOk at hsh; rw [if_neg h0, if_pos h1] at hsh; exact hsh
    simp only [decide_eq_true_eq] at hs2
    obtain ⟨hk1, hk2, ha, hb, hc⟩ := hs2
    have hx : X l i = 118 :: (dec n.k.toNat ++ (58 :: dec n.w.toNat)) := by rw [hXa]; unfold showN; rw [if_neg h0, if_pos h1]; simp
    have hne : reparts n [] = ⟨1, ((n.w.toNat : Nat) : Int), ((n.k.toNat : Nat) : Int), 0, 0, 0⟩ := by
      unfold reparts; simp only [List.length_nil]
      apply Nd.ext'; simp only
      refine ⟨h1, by omega, by omega, ?_, ?_, ?_⟩
      · rw [if_neg (by omega)]; exact ha
      · rw [if_neg (by omega)]; exact hb
      · rw [if_neg (by omega)]; exact hc
    rw [hx] at hq ⊢
    have hbd : Bd q := by rcases hq with h | h
                          · exact h
                          · cases h
    have m1 := word_mk p t (two_word 118 rfl n.k.toNat n.w.toNat) hbd
    have ho : opens ((118 :: (dec n.k.toNat ++ (58 :: dec n.w.toNat))) ++ q) = false := rfl
    have hno : twoL 35 (118 :: (dec n.k.toNat ++ (58 :: dec n.w.toNat))) = none := rfl
    simp only [rdL]
    rw [ho]
    simp only [Bool.false_eq_true, if_false]
    unfold leafL
    rw [m1.1, m1.2, hno]
    simp only
    rw [two_dec 118 (by omega) (by omega), hne]
    all_goals (simp only; rcases putL t ⟨1, ((n.w.toNat : Nat) : Int), ((n.k.toNat : Nat) : Int), 0, 0, 0⟩ p with e | ⟨t3, j⟩ <;> rfl)
  · rw [hXa] at hX
    obtain ⟨b1, b2, b3⟩ := showN_inner h0 h1 hX
    rw [hXa, b1]
    obtain ⟨w, hd, c1, c2, c3, c4, c5⟩ := head_read hsh hwd hle h0 h1
    have hm : madeL (hdr n) t2 is = reparts n is := made_eq hsh hl hw h0 h1
    have e1 : (40 :: (headL n ++ (tails (showTo l l.length) (parts n) ++ [41]))) ++ q = 40 :: (w ++ (hd ++ (tails (showTo l l.length) (parts n) ++ (41 :: q)))) := by rw [c1]; simp
    rw [e1]
    have ho : opens (40 :: (w ++ (hd ++ (tails (showTo l l.length) (parts n) ++ (41 :: q))))) = true := rfl
    simp only [rdL]
    rw [ho, if_pos rfl]
    have hb2 : Bd (tails (showTo l l.length) (parts n) ++ (41 :: q)) := bd_tails _ _ (bd_shut q)
    have m1 := word_mk (p + 1) t c2 (c4 _ hb2)
    have k1 := c5 (p + 1 + w.length) (tails (showTo l l.length) (parts n) ++ (41 :: q)) t hb2
    have k2 := hp p (p + 1 + w.length + hd.length) (41 :: q) (bd_shut q)
    unfold innerL
    simp only [List.tail_cons]
    rw [m1.1, m1.2, c3]
    simp only
    rw [k1]
    simp only
    rw [k2]
    simp only [if_true]
    rw [hm]
    have e3 : p + 1 + w.length + hd.length + (tails (showTo l l.length) (parts n)).length + 1 = p + (40 :: (headL n ++ (tails (showTo l l.length) (parts n) ++ [41]))).length := by
      rw [c1]; simp; omega
    rw [e3]
    all_goals (rcases putL t2 (reparts n is) p with e | ⟨t3, j⟩ <;> rfl)
/-- Parts one behind the other, each read without a new node. -/
theorem parts_seq {g : Nat} {t : List Nd} (ts : List (List UInt8)) (p0 : Nat) : ∀ (ps : List Int) (is : List Nat), is.length = ps.length →
    (∀ x ∈ ps.zip is, ∀ p q, Bd q → rdL g ⟨p, txt ts x.1 ++ q, t⟩ = .ok (⟨p + (txt ts x.1).length, q, t⟩, x.2)) →
    ∀ p q, Bd q → partsL (rdL g) p0 ps.length ⟨p, tails ts ps ++ q, t⟩ = .ok (⟨p + (tails ts ps).length, q, t⟩, is) := by
  intro ps
  induction ps with
  | nil =>
    intro is hl _ p q _
    have his : is = [] := List.eq_nil_of_length_eq_zero hl
    subst his
    rfl
  | cons a ps ih =>
    intro is hl h p q hq
    match is, hl with
    | i :: is, hl =>
      have h1 := h (a, i) (by simp) (p + 1) (tails ts ps ++ q) (bd_tails ts ps hq)
      have h2 := ih is (by simpa using hl) (fun x hx => h x (by simp [hx])) (p + 1 + (txt ts a).length) q hq
      have e1 : tails ts (a :: ps) ++ q = 32 :: (txt ts a ++ (tails ts ps ++ q)) := by simp [tails]
      rw [e1, List.length_cons]
      simp only [partsL]
      rw [blank_mk]
      simp only
      rw [h1]
      simp only
      rw [h2]
      simp only
      congr 3
      simp [tails]; omega
theorem X_len {l : List Nd} (hN : ∀ k, k < l.length → nodeOk l k = true) (hD : Down l) {i : Nat} (hi : i < l.length) : (X l i).length ≤ 4000 := by
  have hok := hN i hi
  have hXa := X_at hD hi
  have hsh : shapeOk (nth l i) ((parts (nth l i)).map (width l)) = true := by
    simp only [nodeOk, Bool.and_eq_true] at hok; exact hok.2
  have hwd := node_width hok
  generalize nth l i = n at hXa hsh hwd
  by_cases h0 : n.op = 0
  · have hs2 : (wok n.w n.k && decide (n.a = 0 ∧ n.b = 0 ∧ n.c = 0)) = true := by unfold shapeOk at hsh; rw [if_pos h0] at hsh; exact hsh
    simp only [Bool.and_eq_true] at hs2
    have hk := wok_lt hs2.1
    have d1 := dec_len (n := n.w.toNat) (by omega)
    have d2 := dec_len (n := n.k.toNat) (by omega)
    rw [hXa]; unfold showN; rw [if_pos h0]; simp; omega
  by_cases h1 : n.op = 1
  · have hs2 : decide (0 ≤ n.k ∧ n.k ≤ 7 ∧ n.a = 0 ∧ n.b = 0 ∧ n.c = 0) = true := by unfold shapeOk at hsh; rw [if_neg h0, if_pos h1] at hsh; exact hsh
    simp only [decide_eq_true_eq] at hs2
    have d1 := dec_len (n := n.w.toNat) (by omega)
    have d2 := dec_len (n := n.k.toNat) (by omega)
    rw [hXa]; unfold showN; rw [if_neg h0, if_pos h1]; simp; omega
  · by_cases hX : showN n (showTo l l.length) = []
    · rw [hXa, hX]; simp
    · obtain ⟨b1, b2, b3⟩ := showN_inner h0 h1 hX
      rw [hXa, b1]
      simp at b3 ⊢; omega
/-- The text of a part is shorter, and there. -/
theorem part_text {l : List Nd} (hD : Down l) {i : Nat} (hi : i < l.length) (hX : X l i ≠ []) {p : Int} (hp : p ∈ parts (nth l i)) : txt (showTo l l.length) p = X l p.toNat ∧ X l p.toNat ≠ [] ∧ (X l p.toNat).length + 1 < (X l i).length ∧ opens (X l i) = true := by
  have hd := hD i hi p hp
  have hXa := X_at hD hi
  have hpe : txt (showTo l l.length) p = X l p.toNat := by
    unfold X; congr 1; omega
  have h0 : (nth l i).op ≠ 0 := by
    intro h; rw [parts_none (by omega) (by omega) (by omega)] at hp; cases hp
  have h1 : (nth l i).op ≠ 1 := by
    intro h; rw [parts_none (by omega) (by omega) (by omega)] at hp; cases hp
  rw [hXa] at hX
  obtain ⟨b1, b2, b3⟩ := showN_inner h0 h1 hX
  have b4 := b2 p hp
  rw [hpe] at b4
  have hmem : ∀ (ps : List Int), p ∈ ps → (X l p.toNat).length + 1 ≤ (tails (showTo l l.length) ps).length := by
    intro ps
    induction ps with
    | nil => intro h; cases h
    | cons a ps ih =>
      intro h
      rcases List.mem_cons.1 h with e | e
      · subst e; simp only [tails, List.flatMap_cons, List.length_append, List.length_cons]; rw [hpe]; omega
      · have := ih e
        simp only [tails, List.flatMap_cons, List.length_append, List.length_cons] at this ⊢; omega
  have := hmem _ hp
  refine ⟨hpe, b4, ?_, ?_⟩
  · rw [hXa, b1]; simp; omega
  · rw [hXa, b1]; rfl
theorem reparts_self {l : List Nd} (hD : Down l) {i : Nat} (hi : i < l.length) : reparts (nth l i) ((parts (nth l i)).map Int.toNat) = nth l i := by
  have hd := hD i hi
  unfold reparts
  rcases parts_cases (nth l i) with e | e | e | e
  · rw [e]; rfl
  · rw [e] at hd ⊢
    have h1 := hd (nth l i).a (by simp)
    apply Nd.ext'
    simp; omega
  · rw [e] at hd ⊢
    have h1 := hd (nth l i).a (by simp)
    have h2 := hd (nth l i).b (by simp)
    apply Nd.ext'
    simp; omega
  · rw [e] at hd ⊢
    have h1 := hd (nth l i).a (by simp)
    have h2 := hd (nth l i).b (by simp)
    have h3 := hd (nth l i).c (by simp)
    apply Nd.ext'
    simp; omega
theorem mem_zip_map {α β : Type} (f : α → β) : ∀ (ps : List α) (x : α × β), x ∈ ps.zip (ps.map f) → x.1 ∈ ps ∧ x.2 = f x.1 := by
  intro ps
  induction ps with
  | nil => intro x hx; cases hx
  | cons a ps ih =>
    intro x hx
    simp only [List.map_cons, List.zip_cons_cons, List.mem_cons] at hx
    rcases hx with e | e
    · subst e; exact ⟨by simp, rfl⟩
    · have := ih x e; exact ⟨by simp [this.1], this.2⟩
/-- The text of a node of a good list is read as that node, and nothing is put in. -/
theorem reread {t : List Nd} (hG : Neat t) : ∀ j, j < t.length → X t j ≠ [] → ∀ g p q, (X t j).length < g → (Bd q ∨ opens (X t j) = true) → rdL g ⟨p, X t j ++ q, t⟩ = .ok (⟨p + (X t j).length, q, t⟩, j) := by
  intro j
  induction j using Nat.strongRecOn with
  | ind j ih =>
    intro hj hX g p q hg hq
    have hD := hG.down
    cases g with
    | zero => omega
    | succ g =>
      have hp : ∀ p0 p q, Bd q → partsL (rdL g) p0 (parts (nth t j)).length ⟨p, tails (showTo t t.length) (parts (nth t j)) ++ q, t⟩ = .ok (⟨p + (tails (showTo t t.length) (parts (nth t j))).length, q, t⟩, (parts (nth t j)).map Int.toNat) := by
        intro p0
        refine parts_seq (showTo t t.length) p0 (parts (nth t j)) _ (by simp) ?_
        intro x hx p q hq
        obtain ⟨h1, h2⟩ := mem_zip_map Int.toNat _ x hx
        obtain ⟨c1, c2, c3, c4⟩ := part_text hD hj hX h1
        have hd := hD j hj x.1 h1
        rw [c1, h2]
        exact ih x.1.toNat (by omega) (by omega) c2 g p q (by omega) (.inl hq)
      have hw : ((parts (nth t j)).map Int.toNat).map (fun (i : Nat) => width t (i : Int)) = (parts (nth t j)).map (width t) := by
        rw [List.map_map]
        apply List.map_congr_left
        intro p hp
        have hd := hD j hj p hp
        simp only [Function.comp]
        congr 1; omega
      have key := node_read hG.ok hD hj hX (by simp) hw hp p q hq
      rw [key, reparts_self hD hj]
      unfold putL
      rw [place_at hG hj]
/-- Two nodes of a good list with one text are one. -/
theorem text_inj {t : List Nd} (hG : Neat t) {j k : Nat} (hj : j < t.length) (hk : k < t.length) (hX : X t j ≠ []) (h : X t j = X t k) : j = k := by
  have h1 := reread hG j hj hX ((X t j).length + 1) 0 [] (by omega) (.inl bd_nil)
  have h2 := reread hG k hk (by rw [← h]; exact hX) ((X t j).length + 1) 0 [] (by rw [h]; omega) (.inl bd_nil)
  rw [← h, h1] at h2
  injection h2 with h2
  injection h2

end Go.Proofs.Ytebejleeadofcaa.Tx3
